package tests

import (
	"fmt"
	"math"
	"math/rand"
	"slices"
	"testing"

	"loop.example/g01055/impl"
)

// quarterSines returns the sines of all angles from 0 to a quarter turn.
func quarterSines(t *testing.T) []int64 {
	t.Helper()
	list := make([]int64, quarter+1)
	for x := range list {
		sine, code := impl.SineOf(int64(x))
		same(t, "SineOf", code, impl.OK)
		list[x] = sine
	}
	return list
}

func TestSinesGrowUpToAQuarterTurn(t *testing.T) {
	sines := quarterSines(t)
	same(t, "the least sine", sines[0], 0)
	same(t, "the greatest sine", sines[quarter], unit)
	for x := 1; x < len(sines); x++ {
		if sines[x] < sines[x-1] {
			t.Errorf("SineOf %d: got %d, less than %d before it", x, sines[x], sines[x-1])
		}
	}
}

// A sine is the nearest integer if it lies at most a half above the rule, and less than a half below it.
func TestSinesAreNearestToTheRule(t *testing.T) {
	for x, sine := range quarterSines(t) {
		bow := int64(x) * (half - int64(x))
		twice, below := 2*16*unit*bow, 5*half*half-4*bow
		if twice < (2*sine-1)*below || twice >= (2*sine+1)*below {
			t.Errorf("SineOf %d: got %d, not the nearest one", x, sine)
		}
		if d := float64(sine)/unit - math.Sin(float64(x)*math.Pi/half); math.Abs(d) >= 0.002 {
			t.Errorf("SineOf %d: got %d, off by %g", x, sine, d)
		}
	}
}

func TestSinesOfATurnFollowTheFirstQuarter(t *testing.T) {
	sines := quarterSines(t)
	for x := int64(0); x <= quarter; x++ {
		want := sines[x]
		for k, angle := range []int64{x, half - x, half + x, turn - x} {
			signed := want * int64(1-k/2*2)
			for _, turns := range []int64{-700, 0, 700} {
				same(t, fmt.Sprint("SineOf ", angle+turns*turn), resultOf(impl.SineOf(angle+turns*turn)), result{signed, impl.OK})
			}
			same(t, fmt.Sprint("CosineOf ", angle-quarter), resultOf(impl.CosineOf(angle-quarter)), result{signed, impl.OK})
		}
	}
}

// The arc of each sine is the least angle that reaches it.
func TestArcsLeadBack(t *testing.T) {
	sines := quarterSines(t)
	least := 0
	for sine := int64(0); sine <= unit; sine++ {
		for sines[least] < sine {
			least++
		}
		same(t, fmt.Sprint("ArcOf ", sine), resultOf(impl.ArcOf(sine)), result{int64(least), impl.OK})
	}
	for x, sine := range sines {
		arc, code := impl.ArcOf(sine)
		same(t, "ArcOf a sine", code, impl.OK)
		if arc < 0 || arc > int64(x) || sines[arc] != sine {
			t.Errorf("ArcOf %d, the sine of %d: got %d", sine, x, arc)
		}
	}
}

func checkBetween(t *testing.T, step, angle, before, after int64) {
	t.Helper()
	sine, code := impl.BetweenSine(step, angle)
	if code != impl.OK || sine < min(before, after) || sine > max(before, after) {
		t.Errorf("BetweenSine %d %d: got %d %d, not between %d and %d", step, angle, sine, code, before, after)
	}
}

func TestSinesBetweenTwoOfATable(t *testing.T) {
	r := rand.New(rand.NewSource(7))
	for _, step := range drawnSteps() {
		table, _ := impl.SineTable(step, maxTable)
		for i := range int64(maxTable - 1) {
			angle := i * step
			same(t, fmt.Sprint("BetweenSine ", step, angle), resultOf(impl.BetweenSine(step, angle)), result{table[i], impl.OK})
			for _, rest := range []int64{0, 1 % step, step / 2, step - 1, r.Int63n(step)} {
				checkBetween(t, step, angle+rest, table[i], table[i+1])
				checkBetween(t, step, -angle-rest, -table[i], -table[i+1])
			}
		}
	}
}

func TestSinesBetweenOthers(t *testing.T) {
	for _, step := range drawnSteps() {
		for _, angle := range drawnAngles() {
			before := multipleBelow(step, angle)
			checkBetween(t, step, angle, ruleSine(before), ruleSine(before+step))
			if before >= -maxAngle {
				same(t, fmt.Sprint("BetweenSine ", step, before), resultOf(impl.BetweenSine(step, before)), result{ruleSine(before), impl.OK})
			}
		}
	}
}

// Where the sines of a table grow, those between them grow as well.
func TestSinesBetweenGrow(t *testing.T) {
	for _, step := range []int64{900, 54000, 108000, 162000, quarter} {
		last := int64(math.MinInt64)
		for angle := int64(-quarter); angle <= quarter; angle += 27 {
			sine, _ := impl.BetweenSine(step, angle)
			if sine < last {
				t.Errorf("BetweenSine %d %d: got %d, less than %d before it", step, angle, sine, last)
			}
			last = sine
		}
	}
}

func TestWorstStepIsOfItsTable(t *testing.T) {
	for _, step := range drawnSteps() {
		for _, many := range []int64{2, 3, 50, maxTable} {
			table, _ := impl.SineTable(step, many)
			var growths []int64
			for i := range table[1:] {
				growths = append(growths, max(table[i+1]-table[i], table[i]-table[i+1]))
			}
			same(t, fmt.Sprint("WorstStep ", step, many), resultOf(impl.WorstStep(step, many)), result{slices.Max(growths), impl.OK})
		}
	}
}
