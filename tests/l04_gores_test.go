package tests

import (
	"fmt"
	"math"
	"math/big"
	"math/rand"
	"slices"
	"testing"

	"loop.example/g01055/impl"
)

const (
	maxAround = 1000000
	maxPaper  = 100000
	leastStep = 3240
)

// A worstResult is a latitude and its closing error with their code.
type worstResult struct{ lat, closing, code int64 }

func worstOf(lat, closing, code int64) worstResult { return worstResult{lat, closing, code} }

var (
	invalid  = result{0, impl.ErrInvalid}
	notFound = result{0, impl.ErrNotFound}
	full     = result{0, impl.ErrFull}
)

func rightGores() []int64 {
	return []int64{6, 8, 9, 10, 12, 15, 16, 18, 20, 24, 25, 27, 30, 32, 36, 40, 45, 48}
}

// wrongGores has numbers that do not divide a turn, and divisors below and above the limits.
func wrongGores() []int64 {
	return []int64{
		7, 11, 13, 14, 17, 19, 21, 22, 23, 26, 28, 29, 31, 33, 34, 35, 37, 38, 39, 41, 42, 43, 44, 46, 47, 49,
		5, 4, 3, 2, 1, 0, -1, -5, -6, -12, -48, -turn, 50, 54, 60, turn, math.MinInt64, math.MinInt64 + 1, math.MaxInt64,
	}
}

func wrongArounds() []int64 {
	return []int64{0, -1, -1000, maxAround + 1, math.MinInt64, math.MaxInt64}
}

func wrongParallelSteps() []int64 {
	return []int64{leastStep - 1, quarter + 1, 1, 0, -1, -leastStep, -quarter, math.MinInt64, math.MaxInt64}
}

func wrongPapers() []int64 {
	return []int64{0, -1, maxPaper + 1, -1000, math.MinInt64, math.MaxInt64}
}

// drawnLats has the equator, both poles, what lies beside them, and some latitudes more that are always the same.
func drawnLats() []int64 {
	list := []int64{-quarter, -quarter + 1, -216000, -1, 0, 1, 108000, 216000, quarter - 1, quarter}
	r := rand.New(rand.NewSource(8))
	for range 20 {
		list = append(list, r.Int63n(2*quarter+1)-quarter)
	}
	return list
}

func drawnArounds() []int64 {
	list := []int64{1, 2, 3, 4, 5, 6, 9, 12, 18, 24, 39, 72, 83, 360, 1000, 1001, 99999, maxAround - 1, maxAround}
	r := rand.New(rand.NewSource(9))
	for range 20 {
		list = append(list, 1+r.Int63n(maxAround))
	}
	return list
}

func drawnParallelSteps() []int64 {
	return []int64{leastStep, leastStep + 1, 9999, 16200, 54000, 100000, 162000, 162001, quarter - 1, quarter}
}

// ruleWidth returns the width of a gore by the words of the document.
func ruleWidth(gores, around, lat int64) int64 {
	return roundedQuotient(big.NewInt(around*ruleSine(lat+quarter)), big.NewInt(unit*gores))
}

func ruleLength(around, lat int64) int64 {
	return roundedQuotient(big.NewInt(around*ruleSine(lat+quarter)), big.NewInt(unit))
}

func ruleClosing(gores, around, lat int64) int64 {
	return gores*ruleWidth(gores, around, lat) - ruleLength(around, lat)
}

// ruleWorst goes from the pole to the equator, so that the last one of several is the first one of the document.
func ruleWorst(gores, around, step int64) (int64, int64, int64) {
	worstLat := quarter / step * step
	worst := ruleClosing(gores, around, worstLat)
	for lat := worstLat; lat >= 0; lat -= step {
		here := ruleClosing(gores, around, lat)
		if max(here, -here) >= max(worst, -worst) {
			worstLat, worst = lat, here
		}
	}
	return worstLat, worst, impl.OK
}

// lonFrom returns the longitude of an angle counted from the longitude 0 to the east.
func lonFrom(east int64) int64 {
	east = modTurn(east)
	if east >= half {
		return east - turn
	}
	return east
}

func TestLimitsOfGores(t *testing.T) {
	same(t, "MinGores", impl.MinGores, 6)
	same(t, "MaxGores", impl.MaxGores, 48)
	same(t, "MaxAround", impl.MaxAround, maxAround)
	same(t, "MaxPaper", impl.MaxPaper, maxPaper)
}

func TestExampleOfGores(t *testing.T) {
	same(t, "GoreWidth", resultOf(impl.GoreWidth(12, 1000, 0)), result{83, impl.OK})
	same(t, "ClosingAt", resultOf(impl.ClosingAt(12, 1000, 0)), result{-4, impl.OK})
}

func TestValidGores(t *testing.T) {
	for _, n := range rightGores() {
		same(t, fmt.Sprint("ValidGores ", n), impl.ValidGores(n), true)
	}
	for _, n := range wrongGores() {
		same(t, fmt.Sprint("ValidGores ", n), impl.ValidGores(n), false)
	}
	for n := int64(-2 * turn); n <= 2*turn; n++ {
		if want := n >= 6 && n <= 48 && turn%n == 0; impl.ValidGores(n) != want {
			t.Errorf("ValidGores %d: got %t", n, !want)
		}
	}
}

func TestGoreSpan(t *testing.T) {
	for gores, want := range map[int64]int64{6: 216000, 12: 108000, 25: 51840, 32: 40500, 45: 28800, 48: 27000} {
		same(t, fmt.Sprint("GoreSpan ", gores), resultOf(impl.GoreSpan(gores)), result{want, impl.OK})
	}
	for _, gores := range rightGores() {
		span, code := impl.GoreSpan(gores)
		same(t, fmt.Sprint("all spans of ", gores), span*gores, turn)
		same(t, fmt.Sprint("GoreSpan ", gores), code, impl.OK)
	}
	for _, gores := range wrongGores() {
		same(t, fmt.Sprint("GoreSpan ", gores), resultOf(impl.GoreSpan(gores)), invalid)
	}
}

func TestGoreOf(t *testing.T) {
	for _, x := range [][3]int64{
		{12, 0, 0}, {12, 107999, 0}, {12, 108000, 1}, {12, -1, 11}, {12, -108000, 11}, {12, -108001, 10}, {12, half - 1, 5}, {12, -half, 6},
		{9, half - 1, 4}, {9, -half, 4}, {25, half - 1, 12}, {25, -half, 12}, {6, -216000, 5}, {6, -216001, 4}, {48, -27000, 47}, {48, 26999, 0},
	} {
		for _, lat := range []int64{0, 108000, -108000, quarter, -quarter, quarter - 1, -quarter + 1} {
			p := impl.Spot{Lat: lat, Lon: x[1]}
			same(t, fmt.Sprint("GoreOf ", x[0], " ", name(p)), resultOf(impl.GoreOf(x[0], p)), result{x[2], impl.OK})
		}
	}
	for _, gores := range rightGores() {
		for _, p := range drawnSpots() {
			same(t, fmt.Sprint("GoreOf ", gores, " ", name(p)), resultOf(impl.GoreOf(gores, p)), result{modTurn(p.Lon) * gores / turn, impl.OK})
		}
	}
}

// The beginning belongs to a gore, and one before it to the gore before.
func TestBeginningsOfGores(t *testing.T) {
	for _, gores := range rightGores() {
		span := turn / gores
		for k := range gores {
			for _, lat := range []int64{0, quarter, -quarter} {
				begin := impl.Spot{Lat: lat, Lon: lonFrom(k * span)}
				before := impl.Spot{Lat: lat, Lon: lonFrom(k*span - 1)}
				end := impl.Spot{Lat: lat, Lon: lonFrom((k+1)*span - 1)}
				same(t, fmt.Sprint("GoreOf ", gores, " ", name(begin)), resultOf(impl.GoreOf(gores, begin)), result{k, impl.OK})
				same(t, fmt.Sprint("GoreOf ", gores, " ", name(before)), resultOf(impl.GoreOf(gores, before)), result{(k + gores - 1) % gores, impl.OK})
				same(t, fmt.Sprint("GoreOf ", gores, " ", name(end)), resultOf(impl.GoreOf(gores, end)), result{k, impl.OK})
			}
		}
	}
}

func TestErrorsOfGoreOf(t *testing.T) {
	for _, gores := range wrongGores() {
		for _, p := range append(wrongSpots(), impl.Spot{}, impl.Spot{Lat: quarter, Lon: -half}) {
			same(t, fmt.Sprint("GoreOf ", gores, " ", name(p)), resultOf(impl.GoreOf(gores, p)), invalid)
		}
	}
	for _, gores := range rightGores() {
		for _, p := range wrongSpots() {
			same(t, fmt.Sprint("GoreOf ", gores, " ", name(p)), resultOf(impl.GoreOf(gores, p)), invalid)
		}
	}
}

func TestGoreMiddle(t *testing.T) {
	for _, x := range [][3]int64{
		{12, 0, 54000}, {12, 5, 594000}, {12, 6, -594000}, {12, 11, -54000}, {6, 0, 108000}, {6, 5, -108000}, {48, 0, 13500}, {48, 47, -13500},
		{9, 4, -half}, {25, 12, -half}, {32, 15, 627750}, {32, 31, -20250}, {45, 0, 14400},
	} {
		same(t, fmt.Sprint("GoreMiddle ", x), resultOf(impl.GoreMiddle(x[0], x[1])), result{x[2], impl.OK})
	}
	for _, gores := range rightGores() {
		for k := range gores {
			lon, code := impl.GoreMiddle(gores, k)
			same(t, fmt.Sprint("GoreMiddle ", gores, k), result{lon, code}, result{lonFrom(k*turn/gores + turn/gores/2), impl.OK})
			same(t, "gore of its middle", resultOf(impl.GoreOf(gores, impl.Spot{Lon: lon})), result{k, impl.OK})
		}
	}
}

func TestErrorsOfGoreMiddle(t *testing.T) {
	for _, gores := range rightGores() {
		for _, k := range []int64{-1, gores, -gores, gores + 1, turn, math.MinInt64, math.MaxInt64} {
			same(t, fmt.Sprint("GoreMiddle ", gores, k), resultOf(impl.GoreMiddle(gores, k)), outOfRange)
		}
	}
	for _, gores := range wrongGores() {
		for _, k := range []int64{0, 1, 5, -1, gores, 48, math.MinInt64, math.MaxInt64} {
			same(t, fmt.Sprint("GoreMiddle ", gores, k), resultOf(impl.GoreMiddle(gores, k)), invalid)
		}
	}
}

func TestGoreWidthAndClosingAt(t *testing.T) {
	for _, x := range [][5]int64{
		{12, 1000, 0, 83, -4}, {12, 1000, 1, 83, -4}, {12, 1000, 216000, 42, 4}, {12, 1000, 108000, 72, -1}, {12, 1200, 0, 100, 0},
		{12, 1000, quarter, 0, 0}, {12, 1000, quarter - 1, 0, 0}, {6, maxAround, 0, 166667, 2}, {6, maxAround, quarter, 0, 0},
		{6, maxAround, quarter - 1, 1, 1}, {48, maxAround, 0, 20833, -16}, {48, maxAround, quarter - 1, 0, -5}, {48, maxAround, 216000, 10417, 16},
		{12, 1, 0, 0, -1}, {12, 1, 216000, 0, -1}, {12, 1, 216001, 0, 0}, {12, 5, 0, 0, -5}, {12, 6, 0, 1, 6}, {12, 18, 0, 2, 6}, {9, 9, 216000, 1, 4},
	} {
		for _, lat := range []int64{x[2], -x[2]} {
			same(t, fmt.Sprint("GoreWidth ", x[:2], lat), resultOf(impl.GoreWidth(x[0], x[1], lat)), result{x[3], impl.OK})
			same(t, fmt.Sprint("ClosingAt ", x[:2], lat), resultOf(impl.ClosingAt(x[0], x[1], lat)), result{x[4], impl.OK})
		}
	}
	for _, gores := range rightGores() {
		for _, around := range drawnArounds() {
			for _, lat := range drawnLats() {
				what := fmt.Sprint(gores, around, lat)
				same(t, "GoreWidth "+what, resultOf(impl.GoreWidth(gores, around, lat)), result{ruleWidth(gores, around, lat), impl.OK})
				same(t, "ClosingAt "+what, resultOf(impl.ClosingAt(gores, around, lat)), result{ruleClosing(gores, around, lat), impl.OK})
			}
		}
	}
}

// Where a width at the equator is a half more than a whole number, the whole number above it is taken.
func TestHalvesOfGoreWidth(t *testing.T) {
	for _, gores := range rightGores() {
		for _, whole := range []int64{0, 1, 2, 7} {
			if gores%2 == 0 {
				same(t, "GoreWidth", resultOf(impl.GoreWidth(gores, gores*whole+gores/2, 0)), result{whole + 1, impl.OK})
				same(t, "ClosingAt", resultOf(impl.ClosingAt(gores, gores*whole+gores/2, 0)), result{gores / 2, impl.OK})
			}
			// The cosine is a half there.
			around := gores * (2*whole + 1)
			same(t, "GoreWidth", resultOf(impl.GoreWidth(gores, around, 216000)), result{whole + 1, impl.OK})
			same(t, "ClosingAt", resultOf(impl.ClosingAt(gores, around, 216000)), result{gores*(whole+1) - (around+1)/2, impl.OK})
		}
	}
}

// wrongParallels has arguments for functions of a number of gores, a circumference and a third number, with the code of each.
func wrongParallels(rightThird, wrongThird []int64) map[[3]int64]int64 {
	list := map[[3]int64]int64{}
	for _, around := range append(wrongArounds(), 1, 1000, maxAround) {
		for _, third := range append(wrongThird, rightThird...) {
			for _, gores := range wrongGores() {
				list[[3]int64{gores, around, third}] = impl.ErrInvalid
			}
			if slices.Contains(wrongArounds(), around) || slices.Contains(wrongThird, third) {
				for _, gores := range rightGores() {
					list[[3]int64{gores, around, third}] = impl.ErrRange
				}
			}
		}
	}
	return list
}

func TestErrorsOfGoreWidthAndClosingAt(t *testing.T) {
	for x, code := range wrongParallels([]int64{0, quarter, -quarter}, wrongLats()) {
		same(t, fmt.Sprint("GoreWidth ", x), resultOf(impl.GoreWidth(x[0], x[1], x[2])), result{0, code})
		same(t, fmt.Sprint("ClosingAt ", x), resultOf(impl.ClosingAt(x[0], x[1], x[2])), result{0, code})
	}
}

func TestGoreWidths(t *testing.T) {
	for _, x := range []struct {
		gores, around, step int64
		want                []int64
	}{
		{12, 1200, quarter, []int64{100, 0}}, {12, 1200, 216000, []int64{100, 50}}, {12, 1200, 100000, []int64{100, 88, 57, 12}},
		{12, 1000, quarter - 1, []int64{83, 0}}, {12, 1200, 162000, []int64{100, 71, 0}}, {48, 1, 216000, []int64{0, 0}},
	} {
		widths, code := impl.GoreWidths(x.gores, x.around, x.step)
		same(t, "GoreWidths", code, impl.OK)
		if !slices.Equal(widths, x.want) {
			t.Errorf("GoreWidths %d %d %d: got %v, want %v", x.gores, x.around, x.step, widths, x.want)
		}
	}
	for _, gores := range rightGores() {
		for _, around := range drawnArounds() {
			for _, step := range drawnParallelSteps() {
				var want []int64
				for i := range quarter/step + 1 {
					want = append(want, ruleWidth(gores, around, i*step))
				}
				widths, code := impl.GoreWidths(gores, around, step)
				same(t, "GoreWidths", code, impl.OK)
				if !slices.Equal(widths, want) {
					t.Errorf("GoreWidths %d %d %d: got %v, want %v", gores, around, step, widths, want)
				}
			}
		}
	}
	widths, _ := impl.GoreWidths(12, 1000, leastStep)
	same(t, "widths with the least step", len(widths), 101)
}

func TestWorstClosing(t *testing.T) {
	for x, want := range map[[3]int64]worstResult{
		{12, 1000, quarter}:          {0, -4, impl.OK},
		{12, 1000, leastStep}:        {29160, -6, impl.OK},
		{12, 1000, 100000}:           {0, -4, impl.OK},
		{48, maxAround, leastStep}:   {126360, 24, impl.OK},
		{6, 1, quarter}:              {0, -1, impl.OK},
		{12, 12, quarter}:            {0, 0, impl.OK},
		{12, 1200, 216000}:           {0, 0, impl.OK},
		{6, maxAround, quarter - 1}:  {0, 2, impl.OK},
		{12, maxAround, quarter - 1}: {323999, -5, impl.OK},
		{6, 3, leastStep}:            {0, 3, impl.OK},
		{6, 8, 54000}:                {0, -2, impl.OK},
		{6, 26, 100000}:              {200000, -3, impl.OK},
		{6, 140, leastStep}:          {55080, -3, impl.OK},
		{12, 8, 100000}:              {100000, 5, impl.OK},
		{12, 33, 100000}:             {100000, -5, impl.OK},
		{48, 39, 54000}:              {162000, 20, impl.OK},
		{48, 99, 54000}:              {162000, -22, impl.OK},
		{48, 24, leastStep}:          {0, 24, impl.OK},
		{48, 86, leastStep}:          {119880, -24, impl.OK},
	} {
		same(t, fmt.Sprint("WorstClosing ", x), worstOf(impl.WorstClosing(x[0], x[1], x[2])), want)
	}
	for _, gores := range rightGores() {
		for _, around := range drawnArounds() {
			for _, step := range drawnParallelSteps() {
				want := worstOf(ruleWorst(gores, around, step))
				same(t, fmt.Sprint("WorstClosing ", gores, around, step), worstOf(impl.WorstClosing(gores, around, step)), want)
			}
		}
	}
}

func TestErrorsOverParallels(t *testing.T) {
	for x, code := range wrongParallels([]int64{leastStep, 100000, quarter}, wrongParallelSteps()) {
		same(t, fmt.Sprint("WorstClosing ", x), worstOf(impl.WorstClosing(x[0], x[1], x[2])), worstResult{0, 0, code})
		widths, got := impl.GoreWidths(x[0], x[1], x[2])
		same(t, fmt.Sprint("widths of GoreWidths ", x), len(widths), 0)
		same(t, fmt.Sprint("GoreWidths ", x), got, code)
	}
}

func ruleFewest(around, paper int64) result {
	for _, gores := range rightGores() {
		if ruleWidth(gores, around, 0) <= paper {
			return result{gores, impl.OK}
		}
	}
	return notFound
}

func TestFewestGores(t *testing.T) {
	for x, want := range map[[2]int64]result{
		{1000, 83}: {12, impl.OK}, {1000, 82}: {15, impl.OK}, {1000, 21}: {48, impl.OK}, {1000, 20}: notFound, {1, 1}: {6, impl.OK},
		{1, maxPaper}: {6, impl.OK}, {maxAround, maxPaper}: {10, impl.OK}, {maxAround, maxPaper - 1}: {12, impl.OK},
		{maxAround, 20833}: {48, impl.OK}, {maxAround, 20832}: notFound, {maxAround, 1}: notFound,
		// A half is rounded before it is held against the paper.
		{9, 1}: {8, impl.OK}, {9, 2}: {6, impl.OK}, {72, 1}: notFound, {71, 1}: {48, impl.OK},
		{600000, maxPaper}: {6, impl.OK}, {600002, maxPaper}: {6, impl.OK}, {600003, maxPaper}: {8, impl.OK},
	} {
		same(t, fmt.Sprint("FewestGores ", x), resultOf(impl.FewestGores(x[0], x[1])), want)
	}
	for _, around := range drawnArounds() {
		for paper := int64(1); paper <= 200; paper++ {
			same(t, fmt.Sprint("FewestGores ", around, paper), resultOf(impl.FewestGores(around, paper)), ruleFewest(around, paper))
		}
		for _, gores := range rightGores() {
			for _, paper := range []int64{ruleWidth(gores, around, 0) - 1, ruleWidth(gores, around, 0)} {
				if paper >= 1 && paper <= maxPaper {
					same(t, fmt.Sprint("FewestGores ", around, paper), resultOf(impl.FewestGores(around, paper)), ruleFewest(around, paper))
				}
			}
		}
	}
	for _, around := range append(wrongArounds(), 1, 1000, maxAround) {
		for _, paper := range append(wrongPapers(), 1, 20, 83, maxPaper) {
			if slices.Contains(wrongArounds(), around) || slices.Contains(wrongPapers(), paper) {
				same(t, fmt.Sprint("FewestGores ", around, paper), resultOf(impl.FewestGores(around, paper)), outOfRange)
			}
		}
	}
}

// ruleSheets lays one gore after the other.
func ruleSheets(gores, around, paper int64) result {
	width := max(ruleWidth(gores, around, 0), 1)
	if width > paper {
		return full
	}
	sheets, left := int64(0), int64(0)
	for range gores {
		if left < width {
			sheets, left = sheets+1, paper
		}
		left -= width
	}
	return result{sheets, impl.OK}
}

func TestSheetsForGores(t *testing.T) {
	for x, want := range map[[3]int64]result{
		{12, 1000, 200}: {6, impl.OK}, {12, 1000, 83}: {12, impl.OK}, {12, 1000, 82}: full, {12, 1000, 1}: full,
		{12, 1000, 165}: {12, impl.OK}, {12, 1000, 166}: {6, impl.OK}, {12, 1000, 995}: {2, impl.OK}, {12, 1000, 996}: {1, impl.OK},
		{12, 1, 1}: {12, impl.OK}, {12, 1, 11}: {2, impl.OK}, {12, 1, 12}: {1, impl.OK}, {48, 1, 7}: {7, impl.OK}, {48, 1, 1}: {48, impl.OK},
		{12, 1, maxPaper}: {1, impl.OK}, {6, maxAround, maxPaper}: full, {10, maxAround, maxPaper}: {10, impl.OK}, {10, maxAround, maxPaper - 1}: full,
		{12, 17, 1}: {12, impl.OK}, {12, 18, 1}: full, {12, 18, 2}: {12, impl.OK}, {48, 72, 2}: {48, impl.OK}, {48, maxAround, 20833}: {48, impl.OK},
	} {
		same(t, fmt.Sprint("SheetsForGores ", x), resultOf(impl.SheetsForGores(x[0], x[1], x[2])), want)
	}
	for _, gores := range rightGores() {
		for _, around := range drawnArounds() {
			width := max(ruleWidth(gores, around, 0), 1)
			for _, paper := range []int64{1, 2, 200, width - 1, width, width + 1, 2*width - 1, 2 * width, 5 * width, gores*width - 1, gores * width, maxPaper} {
				if paper >= 1 && paper <= maxPaper {
					got := resultOf(impl.SheetsForGores(gores, around, paper))
					same(t, fmt.Sprint("SheetsForGores ", gores, around, paper), got, ruleSheets(gores, around, paper))
				}
			}
		}
	}
	for x, code := range wrongParallels([]int64{1, 20, maxPaper}, wrongPapers()) {
		same(t, fmt.Sprint("SheetsForGores ", x), resultOf(impl.SheetsForGores(x[0], x[1], x[2])), result{0, code})
	}
}

func checkTouched(t *testing.T, gores int64, list []impl.Spot, want []int64) {
	t.Helper()
	touched, code := impl.GoresTouched(gores, list)
	same(t, "GoresTouched", code, impl.OK)
	if !slices.Equal(touched, want) {
		t.Errorf("GoresTouched %d %v: got %v, want %v", gores, list, touched, want)
	}
}

func TestGoresTouched(t *testing.T) {
	checkTouched(t, 12, []impl.Spot{{Lon: -1}, {Lon: 5}, {Lon: 7}}, []int64{0, 11})
	checkTouched(t, 12, nil, nil)
	checkTouched(t, 12, []impl.Spot{}, nil)
	checkTouched(t, 12, []impl.Spot{{Lat: quarter, Lon: -half}, {Lat: -quarter, Lon: half - 1}}, []int64{5, 6})
	checkTouched(t, 6, []impl.Spot{{Lon: 215999}, {Lon: 0}, {Lat: quarter}, {Lat: -quarter}}, []int64{0})
	checkTouched(t, 48, []impl.Spot{{Lon: -1}}, []int64{47})
	r := rand.New(rand.NewSource(10))
	for _, gores := range rightGores() {
		var whole []int64
		var begins []impl.Spot
		for k := range gores {
			whole = append(whole, k)
			begins = append(begins, impl.Spot{Lat: k, Lon: lonFrom((gores - 1 - k) * turn / gores)})
		}
		checkTouched(t, gores, begins, whole)
		for _, many := range []int{1, 2, 10, 99, 100} {
			list := make([]impl.Spot, many)
			var want []int64
			for i := range list {
				list[i] = drawnSpots()[r.Intn(len(drawnSpots()))]
				want = append(want, modTurn(list[i].Lon)*gores/turn)
			}
			slices.Sort(want)
			checkTouched(t, gores, list, slices.Compact(want))
		}
	}
}

func TestErrorsOfGoresTouched(t *testing.T) {
	check := func(gores int64, list []impl.Spot, want int64) {
		t.Helper()
		touched, code := impl.GoresTouched(gores, list)
		same(t, "gores of GoresTouched", len(touched), 0)
		same(t, fmt.Sprint("GoresTouched ", gores, " of ", len(list)), code, want)
	}
	for _, gores := range wrongGores() {
		for _, list := range [][]impl.Spot{nil, {{}}, wrongSpots(), make([]impl.Spot, 100), make([]impl.Spot, 101)} {
			check(gores, list, impl.ErrInvalid)
		}
	}
	for _, many := range []int{101, 102, 1000, 100000} {
		check(12, make([]impl.Spot, many), impl.ErrRange)
	}
	for _, p := range wrongSpots() {
		for _, many := range []int{1, 2, 100, 101, 102, 1000} {
			for _, at := range []int{0, many / 2, many - 1} {
				list := make([]impl.Spot, many)
				list[at] = p
				check(12, list, impl.ErrInvalid)
			}
		}
	}
}
