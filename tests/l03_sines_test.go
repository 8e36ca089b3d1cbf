package tests

import (
	"fmt"
	"math"
	"math/big"
	"math/rand"
	"slices"
	"testing"

	"loop.example/g01055/impl"
)

// roundedQuotient returns n divided by d, rounded to the nearest integer, the greater one of two, as the document tells it.
func roundedQuotient(n, d *big.Int) int64 {
	value := new(big.Rat).SetFrac(n, d)
	value.Add(value, big.NewRat(1, 2))
	// The quotient of Div is rounded down, as the denominator is positive.
	return new(big.Int).Div(value.Num(), value.Denom()).Int64()
}

func modTurn(angle int64) int64 { return ((angle % turn) + turn) % turn }

// ruleSine returns the sine by the words of the document.
func ruleSine(angle int64) int64 {
	x := modTurn(angle)
	if x >= half {
		return -ruleSine(x - half)
	}
	bow := big.NewInt(x * (half - x))
	n := new(big.Int).Mul(big.NewInt(16*unit), bow)
	d := new(big.Int).Sub(big.NewInt(5*half*half), new(big.Int).Mul(big.NewInt(4), bow))
	return roundedQuotient(n, d)
}

func ruleTangent(angle int64) (int64, int64) {
	along := ruleSine(angle + quarter)
	if along == 0 {
		return 0, impl.ErrState
	}
	return roundedQuotient(big.NewInt(unit*ruleSine(angle)), big.NewInt(along)), impl.OK
}

// multipleBelow returns the greatest multiple of step that is not greater than angle.
func multipleBelow(step, angle int64) int64 {
	return angle - ((angle%step)+step)%step
}

func ruleBetween(step, angle int64) int64 {
	before := multipleBelow(step, angle)
	growth := ruleSine(before+step) - ruleSine(before)
	part := new(big.Int).Mul(big.NewInt(angle-before), big.NewInt(growth))
	return ruleSine(before) + roundedQuotient(part, big.NewInt(step))
}

func drawnSteps() []int64 {
	list := []int64{1, 2, 3, 7, 60, 900, 3600, 16200, 54000, 81000, 107999, 108000, 162000, 243000, 323999, quarter}
	r := rand.New(rand.NewSource(5))
	for range 20 {
		list = append(list, 1+r.Int63n(quarter))
	}
	return list
}

// A result is a number with its code.
type result struct{ value, code int64 }

func resultOf(value, code int64) result { return result{value, code} }

var (
	outOfRange = result{0, impl.ErrRange}
	noTangent  = result{0, impl.ErrState}
)

func TestLimitsOfSines(t *testing.T) {
	same(t, "Unit", impl.Unit, unit)
	same(t, "MaxTable", impl.MaxTable, maxTable)
}

func TestSineOf(t *testing.T) {
	for angle, want := range map[int64]int64{
		108000: 500000, 162000: 705882, -108000: -500000, -162000: -705882, 540000: 500000, 756000: -500000, 216000: 864865,
		0: 0, 1: 5, 2: 10, -1: -5, quarter: unit, quarter - 1: unit, quarter + 1: unit, -quarter: -unit, -quarter - 1: -unit,
		half: 0, half - 1: 5, half + 1: -5, -half: 0, -half - 1: 5, -half + 1: -5,
		turn - quarter: -unit, turn - quarter - 1: -unit, turn - quarter + 1: -unit,
		turn: 0, turn - 1: -5, turn + 1: 5, -turn: 0, -turn - 1: -5, -turn + 1: 5,
		maxAngle: -611816, -maxAngle: 611816,
	} {
		same(t, fmt.Sprint("SineOf ", angle), resultOf(impl.SineOf(angle)), result{want, impl.OK})
	}
	for _, angle := range drawnAngles() {
		same(t, fmt.Sprint("SineOf ", angle), resultOf(impl.SineOf(angle)), result{ruleSine(angle), impl.OK})
	}
	for _, angle := range wrongAngles() {
		same(t, fmt.Sprint("SineOf ", angle), resultOf(impl.SineOf(angle)), outOfRange)
	}
}

func TestCosineOf(t *testing.T) {
	for angle, want := range map[int64]int64{
		0: unit, 1: unit, -1: unit, 108000: 864865, 216000: 500000, -216000: 500000, 162000: 705882,
		quarter: 0, quarter - 1: 5, quarter + 1: -5, -quarter: 0, -quarter - 1: -5, -quarter + 1: 5,
		half: -unit, half - 1: -unit, half + 1: -unit, turn - quarter: 0, turn - quarter - 1: -5, turn - quarter + 1: 5,
		turn: unit, turn - 1: unit, turn + 1: unit, maxAngle: -789051, -maxAngle: -789051,
	} {
		same(t, fmt.Sprint("CosineOf ", angle), resultOf(impl.CosineOf(angle)), result{want, impl.OK})
	}
	for _, angle := range drawnAngles() {
		same(t, fmt.Sprint("CosineOf ", angle), resultOf(impl.CosineOf(angle)), result{ruleSine(angle + quarter), impl.OK})
	}
	for _, angle := range wrongAngles() {
		same(t, fmt.Sprint("CosineOf ", angle), resultOf(impl.CosineOf(angle)), outOfRange)
	}
}

func TestTangentOf(t *testing.T) {
	for angle, want := range map[int64]int64{
		0: 0, 1: 5, -1: -5, 162000: unit, -162000: -unit, 486000: -unit, 810000: unit, half: 0, half - 1: -5, half + 1: 5,
		quarter - 1: 200000000000, quarter + 1: -200000000000, turn - quarter - 1: 200000000000, turn - quarter + 1: -200000000000,
		turn: 0, turn - 1: -5, turn + 1: 5, maxAngle: 775382, -maxAngle: -775382,
	} {
		same(t, fmt.Sprint("TangentOf ", angle), resultOf(impl.TangentOf(angle)), result{want, impl.OK})
	}
	for _, angle := range drawnAngles() {
		same(t, fmt.Sprint("TangentOf ", angle), resultOf(impl.TangentOf(angle)), resultOf(ruleTangent(angle)))
	}
}

// TestHalvesOfTangents has all angles of which Unit times the sine divided by the cosine lies in the middle of two integers.
func TestHalvesOfTangents(t *testing.T) {
	for angle, want := range map[int64]int64{
		180496: 1197263, 216192: 1733438, 307708: 12460513, 323663: 600960938,
		324337: -600960937, 340292: -12460512, 431808: -1733437, 467504: -1197262,
		828496: 1197263, 864192: 1733438, 955708: 12460513, 971663: 600960938,
		972337: -600960937, 988292: -12460512, 1079808: -1733437, 1115504: -1197262,
	} {
		for _, k := range []int64{-771, -1, 0, 1, 770} {
			same(t, fmt.Sprint("TangentOf ", angle+k*turn), resultOf(impl.TangentOf(angle+k*turn)), result{want, impl.OK})
		}
	}
}

func TestErrorsOfTangentOf(t *testing.T) {
	for _, k := range []int64{-771, -1, 0, 1, 770} {
		for _, angle := range []int64{k*turn + quarter, k*turn + quarter + half} {
			same(t, fmt.Sprint("TangentOf ", angle), resultOf(impl.TangentOf(angle)), noTangent)
		}
	}
	withoutCosine := []int64{772*turn + quarter, -772*turn - quarter, math.MaxInt64/turn*turn - quarter, math.MinInt64/turn*turn + quarter}
	for _, angle := range append(wrongAngles(), withoutCosine...) {
		same(t, fmt.Sprint("TangentOf ", angle), resultOf(impl.TangentOf(angle)), outOfRange)
	}
}

func TestArcOf(t *testing.T) {
	for sine, want := range map[int64]int64{
		0: 0, 1: 1, 4: 1, 5: 1, 6: 2, 10: 2, 500000: 108000, 500001: 108001, 705882: 162000, unit - 1: 323646, unit: 323796,
	} {
		same(t, fmt.Sprint("ArcOf ", sine), resultOf(impl.ArcOf(sine)), result{want, impl.OK})
	}
	for _, sine := range []int64{-1, unit + 1, -unit, -500000, 2 * unit, math.MinInt64, math.MinInt64 + 1, math.MaxInt64 - 1, math.MaxInt64} {
		same(t, fmt.Sprint("ArcOf ", sine), resultOf(impl.ArcOf(sine)), outOfRange)
	}
}

func TestChordOf(t *testing.T) {
	for angle, want := range map[int64]int64{
		0: 0, 1: 0, 2: 10, 3: 10, 4: 20, -1: -10, -2: -10, -3: -20, -4: -20, 216000: unit, 216001: unit, 215999: 999992, -216000: -unit,
		quarter: 1411764, half: 2 * unit, half + 1: 2 * unit, turn: 0, turn - 1: 10, turn + 1: 0, turn + 2: -10, -turn: 0, -turn - 1: 10,
		-half: -2 * unit, turn + half: -2 * unit, 2 * turn: 0, maxAngle: -1891080, -maxAngle: 1891080,
	} {
		same(t, fmt.Sprint("ChordOf ", angle), resultOf(impl.ChordOf(angle)), result{want, impl.OK})
	}
	for _, angle := range drawnAngles() {
		same(t, fmt.Sprint("ChordOf ", angle), resultOf(impl.ChordOf(angle)), result{2 * ruleSine(multipleBelow(2, angle)/2), impl.OK})
	}
	for _, angle := range wrongAngles() {
		same(t, fmt.Sprint("ChordOf ", angle), resultOf(impl.ChordOf(angle)), outOfRange)
	}
}

func TestSineTable(t *testing.T) {
	for _, x := range []struct {
		step, many int64
		want       []int64
	}{
		{108000, 3, []int64{0, 500000, 864865}}, {108000, 1, []int64{0}}, {1, 1, []int64{0}}, {quarter, 1, []int64{0}}, {1, 3, []int64{0, 5, 10}},
		{quarter, 6, []int64{0, unit, 0, -unit, 0, unit}}, {216000, 5, []int64{0, 864865, 864865, 0, -864865}},
	} {
		table, code := impl.SineTable(x.step, x.many)
		same(t, fmt.Sprint("SineTable ", x.step, x.many), code, impl.OK)
		if !slices.Equal(table, x.want) {
			t.Errorf("SineTable %d %d: got %v, want %v", x.step, x.many, table, x.want)
		}
	}
	for _, step := range drawnSteps() {
		for _, many := range []int64{1, 2, 10, maxTable - 1, maxTable} {
			table, code := impl.SineTable(step, many)
			same(t, "SineTable", code, impl.OK)
			same(t, "entries of SineTable", int64(len(table)), many)
			for i, sine := range table {
				same(t, fmt.Sprint("SineTable ", step, many, i), sine, ruleSine(int64(i)*step))
			}
		}
	}
}

// wrongSizes has steps and numbers of steps of which one at least is out of range.
func wrongSizes() [][2]int64 {
	var list [][2]int64
	wrongSteps := []int64{0, -1, quarter + 1, -quarter, math.MinInt64, math.MaxInt64}
	wrongMany := []int64{0, -1, maxTable + 1, -maxTable, math.MinInt64, math.MaxInt64}
	for _, step := range append(wrongSteps, 1, 108000, quarter) {
		for _, many := range append(wrongMany, 1, maxTable) {
			if slices.Contains(wrongSteps, step) || slices.Contains(wrongMany, many) {
				list = append(list, [2]int64{step, many})
			}
		}
	}
	return list
}

func TestErrorsOfSineTable(t *testing.T) {
	for _, x := range wrongSizes() {
		table, code := impl.SineTable(x[0], x[1])
		same(t, fmt.Sprint("entries of SineTable ", x), len(table), 0)
		same(t, fmt.Sprint("SineTable ", x), code, impl.ErrRange)
	}
}

func TestBetweenSine(t *testing.T) {
	for _, x := range [][3]int64{
		{108000, 54000, 250000}, {108000, 0, 0}, {108000, 108000, 500000}, {108000, -108000, -500000}, {108000, -54000, -250000},
		{108000, 107999, 499995}, {108000, 108001, 500003}, {108000, -1, -5}, {quarter, 162000, 500000}, {quarter, quarter, unit},
		{quarter, -quarter, -unit}, {quarter, half, 0}, {quarter, -162000, -500000}, {quarter, 486000, 500000}, {1, 1, 5}, {1, -1, -5},
		{1, maxAngle, -611816}, {1, -maxAngle, 611816}, {quarter, maxAngle, -419753}, {quarter, -maxAngle, 419753},
		{100000, maxAngle, -611816}, {100000, -maxAngle, 611816},
	} {
		same(t, fmt.Sprint("BetweenSine ", x), resultOf(impl.BetweenSine(x[0], x[1])), result{x[2], impl.OK})
	}
	for _, step := range drawnSteps() {
		for _, angle := range drawnAngles() {
			same(t, fmt.Sprint("BetweenSine ", step, angle), resultOf(impl.BetweenSine(step, angle)), result{ruleBetween(step, angle), impl.OK})
		}
	}
}

// In the middle of a step between two sines with an odd sum lies a half.
func TestHalvesOfBetweenSine(t *testing.T) {
	halves := map[string]int{}
	for _, step := range []int64{2, 4, 6, 10, 900, 108000} {
		for k := int64(-400); k <= 400; k++ {
			before, after := ruleSine(k*step), ruleSine((k+1)*step)
			sum := before + after
			if sum%2 == 0 {
				continue
			}
			want := (sum + 1) / 2
			if sum < 0 {
				want = sum / 2
			}
			halves[fmt.Sprint(sum > 0, after > before)]++
			angle := k*step + step/2
			same(t, fmt.Sprint("BetweenSine ", step, angle), resultOf(impl.BetweenSine(step, angle)), result{want, impl.OK})
		}
	}
	same(t, "signs of halves and of growths", len(halves), 4)
}

func TestErrorsOfBetweenSine(t *testing.T) {
	for _, step := range []int64{0, -1, quarter + 1, -quarter, math.MinInt64, math.MaxInt64} {
		for _, angle := range append(wrongAngles(), 0, 54000, maxAngle, -maxAngle) {
			same(t, fmt.Sprint("BetweenSine ", step, angle), resultOf(impl.BetweenSine(step, angle)), outOfRange)
		}
	}
	for _, step := range []int64{1, 108000, quarter} {
		for _, angle := range wrongAngles() {
			same(t, fmt.Sprint("BetweenSine ", step, angle), resultOf(impl.BetweenSine(step, angle)), outOfRange)
		}
	}
}

func TestWidthAt(t *testing.T) {
	for _, x := range [][3]int64{
		{1000, 216000, 500}, {1000, -216000, 500}, {1, 216000, 1}, {1, -216000, 1}, {3, 216000, 2}, {1, 216001, 0}, {1, 215999, 1},
		{0, 0, 0}, {0, quarter, 0}, {1, 0, 1}, {unit, 0, unit}, {unit, quarter, 0}, {unit, -quarter, 0}, {unit, quarter - 1, 5},
		{unit, -quarter + 1, 5}, {100000, quarter - 1, 1}, {99999, quarter - 1, 0}, {unit, 108000, 864865}, {unit - 1, 1, unit - 1},
	} {
		same(t, fmt.Sprint("WidthAt ", x), resultOf(impl.WidthAt(x[0], x[1])), result{x[2], impl.OK})
	}
	r := rand.New(rand.NewSource(6))
	for range 2000 {
		width, lat := r.Int63n(unit+1), r.Int63n(2*quarter+1)-quarter
		want := roundedQuotient(big.NewInt(width*ruleSine(lat+quarter)), big.NewInt(unit))
		same(t, fmt.Sprint("WidthAt ", width, lat), resultOf(impl.WidthAt(width, lat)), result{want, impl.OK})
	}
}

func TestErrorsOfWidthAt(t *testing.T) {
	for _, width := range []int64{-1, unit + 1, -unit, math.MinInt64, math.MaxInt64} {
		for _, lat := range append(wrongLats(), 0, 216000, quarter, -quarter) {
			same(t, fmt.Sprint("WidthAt ", width, lat), resultOf(impl.WidthAt(width, lat)), outOfRange)
		}
	}
	for _, width := range []int64{0, 1000, unit} {
		for _, lat := range wrongLats() {
			same(t, fmt.Sprint("WidthAt ", width, lat), resultOf(impl.WidthAt(width, lat)), outOfRange)
		}
	}
}

func TestWorstStep(t *testing.T) {
	for _, x := range [][3]int64{
		{108000, 3, 500000}, {108000, 2, 500000}, {108000, 1, 0}, {1, 1, 0}, {quarter, 1, 0}, {1, 2, 5}, {1, maxTable, 5},
		{quarter, 2, unit}, {quarter, maxTable, unit}, {216000, 5, 864865}, {216000, 3, 864865}, {270000, 4, 1205882},
	} {
		same(t, fmt.Sprint("WorstStep ", x), resultOf(impl.WorstStep(x[0], x[1])), result{x[2], impl.OK})
	}
	for _, step := range drawnSteps() {
		for many := int64(1); many <= maxTable; many++ {
			worst := int64(0)
			for i := int64(1); i < many; i++ {
				growth := ruleSine(i*step) - ruleSine((i-1)*step)
				worst = max(worst, growth, -growth)
			}
			same(t, fmt.Sprint("WorstStep ", step, many), resultOf(impl.WorstStep(step, many)), result{worst, impl.OK})
		}
	}
	for _, x := range wrongSizes() {
		same(t, fmt.Sprint("WorstStep ", x), resultOf(impl.WorstStep(x[0], x[1])), outOfRange)
	}
}
