package tests

import (
	"fmt"
	"math"
	"math/rand"
	"slices"
	"testing"

	"loop.example/g01055/impl"
)

const (
	maxLabels  = 8
	maxStarts  = 3
	maxRowsL   = 12
	maxAlong   = 1000
	maxWeightL = 1000
)

var (
	// Rows, Widths, Weights and Starts with their limits, and one beyond each.
	rowArgument         = argument{[]int64{0, 1, maxRowsL - 1}, []int64{-1, maxRowsL, -maxRowsL, 1 << 32, math.MinInt64, math.MinInt64 + 1, math.MaxInt64 - 1, math.MaxInt64}}
	labelWidthArgument  = argument{[]int64{1, 2, maxAlong}, []int64{0, -1, maxAlong + 1, -maxAlong, 1 << 32, math.MinInt64, math.MaxInt64}}
	labelWeightArgument = argument{[]int64{1, 2, maxWeightL}, []int64{0, -1, maxWeightL + 1, -maxWeightL, 1 << 32, math.MinInt64, math.MaxInt64}}
	alongArgument       = argument{[]int64{0, 1, maxAlong}, []int64{-1, maxAlong + 1, -maxAlong, 1 << 32, math.MinInt64, math.MinInt64 + 1, math.MaxInt64 - 1, math.MaxInt64}}
)

// labelIn returns a label of a row with these Starts.
func labelIn(row, width, weight int64, starts ...int64) impl.Label {
	return impl.Label{Row: row, Width: width, Weight: weight, Starts: starts}
}

// tens returns a label of the row 0 and the width 10.
func tens(weight int64, starts ...int64) impl.Label { return labelIn(0, 10, weight, starts...) }

func labelsOfExample() []impl.Label { return []impl.Label{tens(1, 0, 5), tens(1, 8)} }

// allLeftOut are the places of so many labels that are left out.
func allLeftOut(many int) []int64 { return slices.Repeat([]int64{-1}, many) }

// rightStarts has one Start and MaxStarts of them, at both ends, in ascending, in descending and in another order.
func rightStarts() [][]int64 {
	return [][]int64{{0}, {7}, {maxAlong}, {0, maxAlong}, {maxAlong, 0}, {5, 4}, {0, 1, 2}, {maxAlong, 500, 0}, {999, 3, maxAlong}, {2, 0, 1}}
}

// wrongStarts has none, too many, some that are there twice, and numbers that are no Starts.
func wrongStarts() [][]int64 {
	lists := [][]int64{
		nil, {}, {0, 1, 2, 3}, {3, 2, 1, 0}, {0, 1, 2, 2}, {0, 0}, {maxAlong, maxAlong}, {4, 4, 9}, {4, 9, 4}, {9, 4, 4}, {4, 4, 4}, make([]int64, 4), allPoints(100000), make([]int64, 100000),
	}
	for _, wrong := range alongArgument.wrong {
		lists = append(lists, []int64{wrong}, []int64{wrong, 0}, []int64{0, wrong}, []int64{wrong, 0, 1}, []int64{0, wrong, 1}, []int64{0, 1, wrong})
	}
	return lists
}

// rightLabels are at the limits of each number.
func rightLabels() []impl.Label {
	var list []impl.Label
	for _, starts := range rightStarts() {
		for _, values := range allValues([]argument{{right: rowArgument.right}, {right: labelWidthArgument.right}, {right: labelWeightArgument.right}}) {
			list = append(list, labelIn(values[0], values[1], values[2], starts...))
		}
	}
	return list
}

// wrongLabels have one number that is not valid, or several.
func wrongLabels() []impl.Label {
	list := []impl.Label{
		{}, {Starts: []int64{0}}, {Width: 1, Weight: 1}, labelIn(-1, 0, 0, -1, -1), labelIn(maxRowsL, maxAlong+1, maxWeightL+1, maxAlong+1),
		labelIn(math.MinInt64, math.MaxInt64, math.MinInt64, math.MaxInt64), labelIn(math.MaxInt64, math.MinInt64, math.MaxInt64, math.MinInt64, 0, 0, 0),
	}
	for _, starts := range wrongStarts() {
		list = append(list, labelIn(0, 10, 1, starts...), labelIn(maxRowsL-1, maxAlong, maxWeightL, starts...))
	}
	for _, row := range rowArgument.wrong {
		list = append(list, labelIn(row, 10, 1, 3, 1))
	}
	for _, width := range labelWidthArgument.wrong {
		list = append(list, labelIn(0, width, 1, 3, 1))
	}
	for _, weight := range labelWeightArgument.wrong {
		list = append(list, labelIn(0, 10, weight, 3, 1))
	}
	return list
}

// ruleMeet looks for a number that both labels cover.
func ruleMeet(a, b impl.Label, x, y int64) bool {
	for n := x; n <= x+a.Width-1; n++ {
		if a.Row == b.Row && y <= n && n <= y+b.Width-1 {
			return true
		}
	}
	return false
}

// A labelTable tells which labels of a list overlap at which of their Starts.
type labelTable [maxLabels][maxStarts][maxLabels][maxStarts]bool

func tableOf(list []impl.Label) *labelTable {
	table := new(labelTable)
	for i, a := range list {
		for p, x := range a.Starts {
			for k, b := range list {
				for q, y := range b.Starts {
					table[i][p][k][q] = ruleMeet(a, b, x, y)
				}
			}
		}
	}
	return table
}

// fault looks at each two labels of which the places are told, and returns the second one of the first two that overlap.
func (table *labelTable) fault(places []int64) int64 {
	for i, p := range places {
		for k, q := range places[:i] {
			if p >= 0 && q >= 0 && table[i][p][k][q] {
				return int64(i)
			}
		}
	}
	return -1
}

func ruleWeight(list []impl.Label, places []int64) int64 {
	weight := int64(0)
	for i, place := range places {
		if place >= 0 {
			weight += list[i].Weight
		}
	}
	return weight
}

// everyPlaces gives out all places of a list, number by number. They lie in the same memory.
func everyPlaces(list []impl.Label, use func(places []int64)) {
	places := allLeftOut(len(list))
	for {
		use(places)
		i := len(list) - 1
		for ; i >= 0 && places[i] == int64(len(list[i].Starts))-1; i-- {
			places[i] = -1
		}
		if i < 0 {
			return
		}
		places[i]++
	}
}

// ruleBestPlaces looks at all places.
func ruleBestPlaces(list []impl.Label) ([]int64, int64) {
	table := tableOf(list)
	var best []int64
	most := int64(-1)
	everyPlaces(list, func(places []int64) {
		if weight := ruleWeight(list, places); weight > most && table.fault(places) < 0 {
			best, most = slices.Clone(places), weight
		}
	})
	return best, most
}

// rulePlaced places one label after the other, in an order of indices.
func rulePlaced(list []impl.Label, order []int64) []int64 {
	table := tableOf(list)
	places := allLeftOut(len(list))
	for _, i := range order {
		for p := range list[i].Starts {
			places[i] = int64(p)
			if table.fault(places) < 0 {
				break
			}
			places[i] = -1
		}
	}
	return places
}

// ruleGreedy goes through all Weights from the greatest one on.
func ruleGreedy(list []impl.Label) []int64 {
	var order []int64
	for weight := int64(maxWeightL); weight > 0; weight-- {
		for i, l := range list {
			if l.Weight == weight {
				order = append(order, int64(i))
			}
		}
	}
	return rulePlaced(list, order)
}

// drawnLabel has Starts up to a greatest one, in any order.
func drawnLabel(r *rand.Rand, rows, width, along, weight int64) impl.Label {
	starts := make([]int64, 0, maxStarts)
	for range 1 + r.Intn(maxStarts) {
		if start := r.Int63n(along + 1); !slices.Contains(starts, start) {
			starts = append(starts, start)
		}
	}
	return labelIn(r.Int63n(rows), 1+r.Int63n(width), 1+r.Int63n(weight), starts...)
}

// labelLists has lists of up to MaxLabels labels, of which many, some or none can be placed beside one another.
func labelLists() [][]impl.Label {
	lists := [][]impl.Label{
		nil, {tens(1, 0)}, labelsOfExample(), keptOut(5, 5, 5), keptOut(2, 1, 1), keptOut(1, 1, 2), rightLabels()[:maxLabels], rightLabels()[100 : 100+maxLabels], apart(maxLabels), slices.Repeat([]impl.Label{tens(1, 3, 1, 2)}, maxLabels),
	}
	r := rand.New(rand.NewSource(50))
	for many := 1; many <= maxLabels; many++ {
		for _, rows := range []int64{1, 2, maxRowsL} {
			for _, weight := range []int64{1, 2, 4, maxWeightL} {
				for _, size := range [][2]int64{{4, 8}, {10, 20}, {6, 30}, {1, 3}, {300, maxAlong}, {maxAlong, maxAlong}} {
					list := make([]impl.Label, many)
					for i := range list {
						list[i] = drawnLabel(r, rows, size[0], size[1], weight)
					}
					lists = append(lists, list)
				}
			}
		}
	}
	return lists
}

// keptOut has a label that keeps out two others, which do not overlap.
func keptOut(first, second, third int64) []impl.Label {
	return []impl.Label{labelIn(0, 30, first, 0), tens(second, 0), tens(third, 20)}
}

// apart has labels of which each one begins where the one before it has just ended.
func apart(many int64) []impl.Label {
	var list []impl.Label
	for i := range many {
		list = append(list, tens(i+1, 10*i))
	}
	return list
}

// drawnPlaces returns places with and without overlaps.
func drawnPlaces(r *rand.Rand, list []impl.Label) []int64 {
	places := make([]int64, len(list))
	for i, l := range list {
		places[i] = r.Int63n(int64(len(l.Starts))+1) - 1
	}
	return places
}

// checkMeet asks for both orders of the labels.
func checkMeet(t *testing.T, a, b impl.Label, x, y int64, want bool) {
	t.Helper()
	same(t, fmt.Sprint("LabelsMeet ", a, b, x, y), codedOf(impl.LabelsMeet(a, b, x, y)), coded[bool]{want, impl.OK})
	same(t, fmt.Sprint("LabelsMeet ", b, a, y, x), codedOf(impl.LabelsMeet(b, a, y, x)), coded[bool]{want, impl.OK})
}

func checkFault(t *testing.T, list []impl.Label, want int64, places ...int64) {
	t.Helper()
	same(t, fmt.Sprint("PlacesFault ", list, places), resultOf(impl.PlacesFault(list, places)), result{want, impl.OK})
}

func checkWeight(t *testing.T, list []impl.Label, want int64, places ...int64) {
	t.Helper()
	same(t, fmt.Sprint("WeightPlaced ", list, places), resultOf(impl.WeightPlaced(list, places)), result{want, impl.OK})
}

func checkBestPlaces(t *testing.T, list []impl.Label, wantWeight int64, want ...int64) {
	t.Helper()
	places, weight, code := impl.BestPlaces(list)
	what := fmt.Sprint("BestPlaces ", list)
	checkList(t, what, places, code, want...)
	same(t, what+": weight", weight, wantWeight)
}

func checkGreedyPlaces(t *testing.T, list []impl.Label, want ...int64) {
	t.Helper()
	places, code := impl.GreedyPlaces(list)
	checkList(t, fmt.Sprint("GreedyPlaces ", list), places, code, want...)
}

func checkLeftOut(t *testing.T, list []impl.Label, places []int64, want ...int64) {
	t.Helper()
	out, code := impl.LeftOut(list, places)
	checkList(t, fmt.Sprint("LeftOut ", list, places), out, code, want...)
}

func checkFill(t *testing.T, list []impl.Label, row, want int64, places ...int64) {
	t.Helper()
	same(t, fmt.Sprint("RowFill ", list, places, row), resultOf(impl.RowFill(list, places, row)), result{want, impl.OK})
}

// checkCovered asks for each row.
func checkCovered(t *testing.T, list []impl.Label, places []int64, want map[int64]int64) {
	t.Helper()
	for row := range int64(maxRowsL) {
		checkFill(t, list, row, want[row], places...)
	}
}

func checkNoFill(t *testing.T, list []impl.Label, row, want int64, places ...int64) {
	t.Helper()
	checkRefused(t, fmt.Sprint("RowFill ", list, places, row), resultsOf(impl.RowFill(list, places, row)), want)
}

func TestLimitsOfLabels(t *testing.T) {
	same(t, "MaxLabels", impl.MaxLabels, maxLabels)
	same(t, "MaxStarts", impl.MaxStarts, maxStarts)
	same(t, "MaxRowsL", impl.MaxRowsL, maxRowsL)
	same(t, "MaxAlong", impl.MaxAlong, maxAlong)
	same(t, "MaxWeightL", impl.MaxWeightL, maxWeightL)
}

// The labels of the example cannot both be placed, whatever they weigh.
func TestExampleOfLabels(t *testing.T) {
	for _, weights := range [][2]int64{{1, 1}, {1, 2}, {2, 1}, {maxWeightL, maxWeightL}} {
		list := labelsOfExample()
		list[0].Weight, list[1].Weight = weights[0], weights[1]
		checkMeet(t, list[0], list[1], 0, 8, true)
		checkMeet(t, list[0], list[1], 5, 8, true)
		everyPlaces(list, func(places []int64) {
			if places[0] >= 0 && places[1] >= 0 {
				checkFault(t, list, 1, places...)
			} else {
				checkFault(t, list, -1, places...)
			}
		})
		if weights[0] > weights[1] {
			checkBestPlaces(t, list, weights[0], 0, -1)
		} else {
			checkBestPlaces(t, list, weights[1], -1, 0)
		}
	}
	checkGreedyPlaces(t, labelsOfExample(), 0, -1)
	checkLeftOut(t, labelsOfExample(), []int64{0, -1}, 1)
	checkFill(t, labelsOfExample(), 0, 10, 0, -1)
}

func TestValidLabels(t *testing.T) {
	same(t, "ValidLabels of none", impl.ValidLabels(nil), true)
	same(t, "ValidLabels of none", impl.ValidLabels([]impl.Label{}), true)
	right := rightLabels()
	for i, l := range right {
		same(t, fmt.Sprint("ValidLabels ", l), impl.ValidLabels([]impl.Label{l}), true)
		many := i%maxLabels + 1
		same(t, fmt.Sprint("ValidLabels of ", many), impl.ValidLabels(slices.Repeat([]impl.Label{l}, many)), true)
		same(t, fmt.Sprint("ValidLabels from ", i), impl.ValidLabels(right[i:min(i+maxLabels, len(right))]), true)
	}
	for _, many := range []int{maxLabels + 1, maxLabels + 2, 2 * maxLabels, 100000} {
		same(t, fmt.Sprint("ValidLabels of ", many), impl.ValidLabels(slices.Repeat(right[:1], many)), false)
	}
	for _, list := range labelLists() {
		same(t, fmt.Sprint("ValidLabels ", list), impl.ValidLabels(list), true)
	}
}

// The wrong label is the first one, one in the middle, and the last one.
func TestWrongLabelsAreNotValid(t *testing.T) {
	for i, wrong := range wrongLabels() {
		for _, list := range listsWithLabel(wrong) {
			same(t, fmt.Sprint("ValidLabels of ", len(list), " with the wrong label ", i), impl.ValidLabels(list), false)
		}
	}
	for _, values := range wrongValues(rowArgument, labelWidthArgument, labelWeightArgument) {
		for _, starts := range rightStarts() {
			l := labelIn(values[0], values[1], values[2], starts...)
			same(t, fmt.Sprint("ValidLabels ", l), impl.ValidLabels([]impl.Label{l}), false)
		}
	}
}

// listsWithLabel has short lists, and lists that are too long, with a label at some places.
func listsWithLabel(l impl.Label) [][]impl.Label {
	var lists [][]impl.Label
	for _, many := range []int{0, 1, 2, maxLabels - 1, maxLabels} {
		for _, at := range []int{0, many / 2, many} {
			lists = append(lists, slices.Insert(apart(int64(many)), at, l))
		}
	}
	return lists
}

func TestLabelsMeet(t *testing.T) {
	a, b := tens(1, 0), tens(1, 0)
	// One begins where the other one has just ended, and one before that.
	for x, want := range map[int64]bool{0: false, 10: false, 11: true, 19: true, 20: true, 21: true, 29: true, 30: false, 31: false, maxAlong: false} {
		checkMeet(t, a, b, 20, x, want)
	}
	// Labels of the width 1.
	small := labelIn(0, 1, 1, 0)
	for x, want := range map[int64]bool{18: false, 19: false, 20: true, 21: false} {
		checkMeet(t, small, small, 20, x, want)
	}
	for x, want := range map[int64]bool{10: false, 11: true, 20: true, 21: false} {
		checkMeet(t, small, a, 20, x, want)
	}
	// A small one in the middle of a great one, and at its ends.
	great := labelIn(0, maxAlong, 1, 0)
	for x, want := range map[int64]bool{0: true, 1: true, 500: true, maxAlong - 1: true, maxAlong: false} {
		checkMeet(t, great, small, 0, x, want)
		checkMeet(t, great, great, 0, x, want)
	}
	for x, want := range map[int64]bool{0: false, 1: true, 2: true, maxAlong: true} {
		checkMeet(t, great, great, maxAlong, x, want)
	}
	checkMeet(t, great, small, maxAlong, maxAlong-1, false)
	checkMeet(t, great, small, maxAlong, maxAlong, true)
}

func TestLabelsInOtherRowsDoNotMeet(t *testing.T) {
	for row := range int64(maxRowsL) {
		for other := range int64(maxRowsL) {
			for _, width := range []int64{1, 10, maxAlong} {
				checkMeet(t, labelIn(row, width, 1, 0), labelIn(other, width, 1, 0), 7, 7, row == other)
				checkMeet(t, labelIn(row, 10, 1, 0), labelIn(other, width, 1, 0), 70, 79, row == other)
				checkMeet(t, labelIn(row, 10, 1, 0), labelIn(other, width, 1, 0), 70, 80, false)
			}
		}
	}
}

// x and y need not be among the Starts.
func TestLabelsMeetFollowsTheRule(t *testing.T) {
	for width := int64(1); width <= 5; width++ {
		for other := int64(1); other <= 5; other++ {
			a, b := labelIn(3, width, 1, 900), labelIn(3, other, 7, 4, 800)
			for x := range int64(14) {
				for y := range int64(14) {
					checkMeet(t, a, b, x, y, ruleMeet(a, b, x, y))
					checkMeet(t, a, b, maxAlong-x, maxAlong-y, ruleMeet(a, b, maxAlong-x, maxAlong-y))
				}
			}
		}
	}
	r := rand.New(rand.NewSource(51))
	for range 2000 {
		a, b := drawnLabel(r, 2, maxAlong, maxAlong, maxWeightL), drawnLabel(r, 2, maxAlong, maxAlong, maxWeightL)
		x := r.Int63n(maxAlong + 1)
		for _, y := range []int64{r.Int63n(maxAlong + 1), x, x + a.Width - 1, x + a.Width, x - b.Width, x - b.Width + 1} {
			if y >= 0 && y <= maxAlong {
				checkMeet(t, a, b, x, y, ruleMeet(a, b, x, y))
			}
		}
	}
}

func TestErrorsOfLabelsMeet(t *testing.T) {
	refused := func(want int64, a, b impl.Label, x, y int64) {
		t.Helper()
		checkRefused(t, fmt.Sprint("LabelsMeet ", x, y), resultsOf(impl.LabelsMeet(a, b, x, y)), want)
		checkRefused(t, fmt.Sprint("LabelsMeet ", x, y), resultsOf(impl.LabelsMeet(b, a, x, y)), want)
	}
	for _, l := range []impl.Label{tens(1, 0), labelIn(maxRowsL-1, maxAlong, maxWeightL, maxAlong, 0, 5), labelIn(5, 1, 1, 700)} {
		for _, values := range wrongValues(alongArgument, alongArgument) {
			refused(impl.ErrRange, l, tens(1, 0), values[0], values[1])
			refused(impl.ErrRange, l, l, values[0], values[1])
		}
		// Labels that are not valid are refused before x and y.
		for _, wrong := range wrongLabels() {
			for _, values := range [][2]int64{{0, 0}, {maxAlong, 3}, {-1, 0}, {0, maxAlong + 1}, {math.MinInt64, math.MaxInt64}} {
				refused(impl.ErrInvalid, l, wrong, values[0], values[1])
				refused(impl.ErrInvalid, wrong, wrong, values[0], values[1])
			}
		}
	}
}

func TestPlacesFault(t *testing.T) {
	checkFault(t, nil, -1)
	checkFault(t, []impl.Label{tens(1, 0)}, -1, 0)
	checkFault(t, []impl.Label{tens(1, 0)}, -1, -1)
	// One begins where the other one has just ended, and one before that, in both orders.
	checkFault(t, []impl.Label{tens(1, 0), tens(1, 10)}, -1, 0, 0)
	checkFault(t, []impl.Label{tens(1, 0), tens(1, 9)}, 1, 0, 0)
	checkFault(t, []impl.Label{tens(1, 10), tens(1, 0)}, -1, 0, 0)
	checkFault(t, []impl.Label{tens(1, 9), tens(1, 0)}, 1, 0, 0)
	// The index of a Start is told, not its number nor its rank.
	list := []impl.Label{tens(1, 20, 10, 0), tens(1, 15)}
	checkFault(t, list, 1, 0, 0)
	checkFault(t, list, 1, 1, 0)
	checkFault(t, list, -1, 2, 0)
	// The second label overlaps only with the first one, which is left out.
	checkFault(t, list, -1, -1, 0)
	checkFault(t, list, -1, 0, -1)
	// The third one overlaps with both in front of it, with one of them, and with none that is not left out.
	list = []impl.Label{tens(1, 0), tens(1, 10), tens(1, 5)}
	checkFault(t, list, 2, 0, 0, 0)
	checkFault(t, list, 2, 0, -1, 0)
	checkFault(t, list, 2, -1, 0, 0)
	checkFault(t, list, -1, -1, -1, 0)
	checkFault(t, list, -1, 0, 0, -1)
	// Two others overlap with the first one; they do not overlap with one another.
	list = keptOut(1, 1, 1)
	checkFault(t, list, 1, 0, 0, 0)
	checkFault(t, list, 2, 0, -1, 0)
	checkFault(t, list, -1, -1, 0, 0)
	// Only the first one and the last one overlap.
	checkFault(t, append(apart(7), tens(1, 0)), 7, make([]int64, 8)...)
	checkFault(t, append([]impl.Label{tens(1, 69)}, apart(7)...), 7, make([]int64, 8)...)
	// The first two faults: those of 3 with 2, and of 4 with 0.
	list = []impl.Label{tens(1, 0), tens(1, 10), tens(1, 20), tens(1, 29), tens(1, 0)}
	checkFault(t, list, 3, 0, 0, 0, 0, 0)
	checkFault(t, list, 4, 0, 0, 0, -1, 0)
	checkFault(t, list, 4, 0, 0, -1, 0, 0)
	checkFault(t, list, -1, -1, 0, -1, 0, 0)
	checkFault(t, list, -1, 0, 0, 0, -1, -1)
}

func TestPlacesFaultInRows(t *testing.T) {
	// The same numbers in different rows.
	var list []impl.Label
	for row := range int64(maxLabels) {
		list = append(list, labelIn(row, 100, 1, 50, 0))
	}
	checkFault(t, list, -1, make([]int64, maxLabels)...)
	list[7].Row = 3
	checkFault(t, list, 7, make([]int64, maxLabels)...)
	checkFault(t, list, -1, 0, 0, 0, -1, 0, 0, 0, 0)
	list[7].Row = maxRowsL - 1
	checkFault(t, list, -1, make([]int64, maxLabels)...)
	list[3].Row = 0
	checkFault(t, list, 3, make([]int64, maxLabels)...)
	// Equal labels, at the same Start and at others.
	list = slices.Repeat([]impl.Label{tens(1, 20, 10, 0)}, 4)
	checkFault(t, list, 1, 0, 0, 0, 0)
	checkFault(t, list, 3, 0, 1, 2, 0)
	checkFault(t, list, 3, 2, 1, 0, 1)
	checkFault(t, list, 2, 2, -1, 2, 0)
	checkFault(t, list, -1, 2, 0, -1, 1)
}

func TestPlacesFollowTheRule(t *testing.T) {
	r := rand.New(rand.NewSource(52))
	for _, list := range labelLists() {
		table := tableOf(list)
		for range 20 {
			places := drawnPlaces(r, list)
			checkFault(t, list, table.fault(places), places...)
			checkWeight(t, list, ruleWeight(list, places), places...)
			var out []int64
			fill := map[int64]int64{}
			for i, place := range places {
				if place == -1 {
					out = append(out, int64(i))
				} else {
					fill[list[i].Row] += list[i].Width
				}
			}
			checkLeftOut(t, list, places, out...)
			if table.fault(places) >= 0 {
				checkNoFill(t, list, r.Int63n(maxRowsL), impl.ErrClash, places...)
			} else {
				checkCovered(t, list, places, fill)
			}
		}
	}
}

func TestWeightPlaced(t *testing.T) {
	checkWeight(t, nil, 0)
	checkWeight(t, []impl.Label{tens(7, 3, 1)}, 7, 0)
	checkWeight(t, []impl.Label{tens(7, 3, 1)}, 7, 1)
	checkWeight(t, []impl.Label{tens(7, 3, 1)}, 0, -1)
	list := []impl.Label{tens(1, 0), tens(20, 30), labelIn(5, 7, 300, 2, 9)}
	checkWeight(t, list, 321, 0, 0, 1)
	checkWeight(t, list, 320, -1, 0, 0)
	checkWeight(t, list, 301, 0, -1, 0)
	checkWeight(t, list, 21, 0, 0, -1)
	checkWeight(t, list, 0, -1, -1, -1)
	// Labels that overlap count as well.
	checkWeight(t, keptOut(100, 20, 3), 123, 0, 0, 0)
	checkWeight(t, labelsOfExample(), 2, 1, 0)
	checkWeight(t, slices.Repeat([]impl.Label{tens(maxWeightL, 0, 1, 2)}, maxLabels), maxLabels*maxWeightL, 2, 0, 0, 0, 1, 2, 2, 2)
	checkWeight(t, slices.Repeat([]impl.Label{tens(1, 0, 1, 2)}, maxLabels), maxLabels, make([]int64, maxLabels)...)
}

func TestLeftOut(t *testing.T) {
	checkLeftOut(t, nil, nil)
	checkLeftOut(t, nil, []int64{})
	checkLeftOut(t, []impl.Label{tens(7, 3, 1)}, []int64{0})
	checkLeftOut(t, []impl.Label{tens(7, 3, 1)}, []int64{1})
	checkLeftOut(t, []impl.Label{tens(7, 3, 1)}, []int64{-1}, 0)
	list := apart(maxLabels)
	checkLeftOut(t, list, make([]int64, maxLabels))
	checkLeftOut(t, list, allLeftOut(maxLabels), allPoints(maxLabels)...)
	checkLeftOut(t, list, []int64{-1, 0, 0, 0, 0, 0, 0, 0}, 0)
	checkLeftOut(t, list, []int64{0, 0, 0, 0, 0, 0, 0, -1}, 7)
	checkLeftOut(t, list, []int64{0, -1, 0, -1, -1, 0, 0, -1}, 1, 3, 4, 7)
	// Labels that overlap are not left out.
	checkLeftOut(t, keptOut(1, 2, 3), []int64{0, 0, 0})
	checkLeftOut(t, keptOut(1, 2, 3), []int64{0, -1, 0}, 1)
}

func TestRowFill(t *testing.T) {
	checkCovered(t, nil, nil, nil)
	// Rows without labels, and rows whose labels are left out.
	list := []impl.Label{labelIn(0, 10, 1, 0), labelIn(3, 7, 900, 5, 0), labelIn(0, 200, 2, 10, 700), labelIn(maxRowsL-1, maxAlong, 3, maxAlong), labelIn(3, 1, 4, 12)}
	checkCovered(t, list, []int64{0, 0, 0, 0, 0}, map[int64]int64{0: 210, 3: 8, maxRowsL - 1: maxAlong})
	checkCovered(t, list, []int64{0, 1, 1, 0, 0}, map[int64]int64{0: 210, 3: 8, maxRowsL - 1: maxAlong})
	checkCovered(t, list, []int64{-1, 1, 1, -1, 0}, map[int64]int64{0: 200, 3: 8})
	checkCovered(t, list, []int64{-1, -1, -1, 0, 0}, map[int64]int64{3: 1, maxRowsL - 1: maxAlong})
	checkCovered(t, list, allLeftOut(5), nil)
	checkCovered(t, apart(maxLabels), make([]int64, maxLabels), map[int64]int64{0: 80})
	// More than the Starts of a row.
	checkFill(t, []impl.Label{labelIn(7, maxAlong, 1, 0), labelIn(7, maxAlong, 1, maxAlong)}, 7, 2*maxAlong, 0, 0)
}

// An overlap is an error in each row, whether or not it is there.
func TestRowFillOfOverlaps(t *testing.T) {
	list := []impl.Label{labelIn(2, 10, 1, 0), labelIn(5, 10, 1, 0, 30), labelIn(5, 10, 1, 9, 29, 40)}
	for row := range int64(maxRowsL) {
		checkNoFill(t, list, row, impl.ErrClash, 0, 0, 0)
		checkNoFill(t, list, row, impl.ErrClash, -1, 0, 0)
		checkNoFill(t, list, row, impl.ErrClash, 0, 1, 1)
	}
	checkCovered(t, list, []int64{0, 0, 1}, map[int64]int64{2: 10, 5: 20})
	checkCovered(t, list, []int64{0, 1, 0}, map[int64]int64{2: 10, 5: 20})
	checkCovered(t, list, []int64{0, 1, 2}, map[int64]int64{2: 10, 5: 20})
	checkCovered(t, list, []int64{0, -1, 0}, map[int64]int64{2: 10, 5: 10})
	checkCovered(t, list, []int64{0, 0, -1}, map[int64]int64{2: 10, 5: 10})
}

func TestBestPlaces(t *testing.T) {
	checkBestPlaces(t, nil, 0)
	checkBestPlaces(t, []impl.Label{}, 0)
	checkBestPlaces(t, []impl.Label{tens(7, 3)}, 7, 0)
	checkBestPlaces(t, []impl.Label{tens(maxWeightL, maxAlong)}, maxWeightL, 0)
	// The first Start is that of the index 0, also where it is not the least one.
	checkBestPlaces(t, []impl.Label{tens(7, 3, 2, 1)}, 7, 0)
	checkBestPlaces(t, []impl.Label{tens(7, 20, 0), tens(7, 20)}, 14, 1, 0)
	checkBestPlaces(t, []impl.Label{tens(7, 20, 0), tens(7, 0)}, 14, 0, 0)
	// All of them.
	checkBestPlaces(t, apart(maxLabels), 36, make([]int64, maxLabels)...)
	checkBestPlaces(t, []impl.Label{labelIn(0, maxAlong, 1, 0), labelIn(1, maxAlong, 1, 0), labelIn(11, maxAlong, 1, 0)}, 3, 0, 0, 0)
	checkBestPlaces(t, []impl.Label{tens(1, 0), tens(1, 5, 15, 10), tens(1, 20, 5)}, 3, 0, 2, 0)
	// One begins where the other one has just ended, and one before that.
	checkBestPlaces(t, []impl.Label{tens(2, 0), tens(1, 10)}, 3, 0, 0)
	checkBestPlaces(t, []impl.Label{tens(2, 0), tens(1, 9)}, 2, 0, -1)
	checkBestPlaces(t, []impl.Label{tens(2, 9), tens(1, 0)}, 2, 0, -1)
	// Just one of them.
	for heavy := range maxLabels {
		list := slices.Repeat([]impl.Label{tens(1, 3, 2, 4)}, maxLabels)
		list[heavy].Weight = 2
		places := allLeftOut(maxLabels)
		places[heavy] = 0
		checkBestPlaces(t, list, 2, places...)
	}
	// A light one makes room for a heavy one, and takes another of its Starts for another light one.
	checkBestPlaces(t, []impl.Label{tens(1, 0), tens(9, 5)}, 9, -1, 0)
	checkBestPlaces(t, []impl.Label{tens(1, 0, 15), tens(9, 5)}, 10, 1, 0)
	checkBestPlaces(t, []impl.Label{tens(1, 0, 15, 30), tens(9, 5), tens(2, 20)}, 12, 2, 0, 0)
	checkBestPlaces(t, []impl.Label{tens(9, 5, 0), tens(1, 10)}, 10, 1, 0)
}

func TestBestPlacesWithEqualWeights(t *testing.T) {
	// Equal labels: the last ones are not left out, and the first of them comes first.
	for many := 1; many <= maxLabels; many++ {
		checkBestPlaces(t, slices.Repeat([]impl.Label{tens(5, 3)}, many), 5, append(allLeftOut(many-1), 0)...)
		checkBestPlaces(t, slices.Repeat([]impl.Label{tens(5, 3, 7)}, many), 5, append(allLeftOut(many-1), 0)...)
		if many >= 2 {
			checkBestPlaces(t, slices.Repeat([]impl.Label{tens(5, 0, 10)}, many), 10, append(allLeftOut(many-2), 0, 1)...)
			checkBestPlaces(t, slices.Repeat([]impl.Label{tens(5, 10, 0, 5)}, many), 10, append(allLeftOut(many-2), 0, 1)...)
			checkBestPlaces(t, slices.Repeat([]impl.Label{tens(5, 5, 10, 0)}, many), 10, append(allLeftOut(many-2), 1, 2)...)
		}
		if many >= 3 {
			checkBestPlaces(t, slices.Repeat([]impl.Label{tens(5, 20, 0, 10)}, many), 15, append(allLeftOut(many-3), 0, 1, 2)...)
		}
	}
	// The first one keeps out two others of the same Weight.
	checkBestPlaces(t, keptOut(5, 5, 5), 10, -1, 0, 0)
	checkBestPlaces(t, []impl.Label{tens(5, 0), labelIn(0, 30, 5, 0), tens(5, 20)}, 10, 0, -1, 0)
	checkBestPlaces(t, []impl.Label{tens(5, 0), tens(5, 20), labelIn(0, 30, 5, 0)}, 10, 0, 0, -1)
	// A chain of labels of which each one overlaps with the next one.
	checkBestPlaces(t, []impl.Label{tens(5, 0), tens(5, 9), tens(5, 18), tens(5, 27)}, 10, -1, 0, -1, 0)
	checkBestPlaces(t, []impl.Label{tens(5, 0), tens(5, 9), tens(5, 18), tens(5, 27), tens(5, 36)}, 15, 0, -1, 0, -1, 0)
	// Some have the same Weight.
	checkBestPlaces(t, []impl.Label{tens(5, 3), tens(5, 3), tens(4, 3)}, 5, -1, 0, -1)
	checkBestPlaces(t, []impl.Label{tens(5, 3), tens(4, 3), tens(5, 3)}, 5, -1, -1, 0)
	checkBestPlaces(t, []impl.Label{tens(4, 3), tens(5, 3), tens(5, 3)}, 5, -1, -1, 0)
}

// Several places have the greatest sum.
func TestFirstBestPlaces(t *testing.T) {
	// They differ in the first number.
	checkBestPlaces(t, []impl.Label{tens(1, 0, 10), tens(1, 10, 0)}, 2, 0, 0)
	checkBestPlaces(t, []impl.Label{tens(1, 0, 10), tens(1, 0, 10)}, 2, 0, 1)
	checkBestPlaces(t, []impl.Label{tens(1, 5, 0, 10), tens(1, 0, 10)}, 2, 1, 1)
	checkBestPlaces(t, []impl.Label{tens(1, 5, 10, 0), tens(1, 0, 10)}, 2, 1, 0)
	// They differ in the last number.
	checkBestPlaces(t, []impl.Label{tens(1, 0), tens(1, 30, 20, 10)}, 2, 0, 0)
	checkBestPlaces(t, []impl.Label{tens(1, 0), tens(1, 5, 20, 10)}, 2, 0, 1)
	checkBestPlaces(t, []impl.Label{tens(1, 0), tens(1, 20), tens(1, 5, 15, 10)}, 3, 0, 0, 2)
	// They differ in whether a label is left out: the first one, one in the middle, and the last one.
	checkBestPlaces(t, []impl.Label{tens(3, 0, 5), tens(3, 8)}, 3, -1, 0)
	checkBestPlaces(t, keptOut(2, 1, 1), 2, -1, 0, 0)
	checkBestPlaces(t, keptOut(3, 1, 1), 3, 0, -1, -1)
	checkBestPlaces(t, []impl.Label{tens(1, 0), labelIn(0, 30, 2, 0), tens(1, 20)}, 2, -1, 0, -1)
	checkBestPlaces(t, []impl.Label{tens(1, 0), tens(1, 20), labelIn(0, 30, 2, 0)}, 2, -1, -1, 0)
	checkBestPlaces(t, []impl.Label{labelIn(1, 5, 7, 2), tens(3, 0), tens(3, 5), labelIn(2, 5, 7, 2)}, 17, 0, -1, 0, 0)
	checkBestPlaces(t, []impl.Label{tens(2, 0), tens(1, 5), tens(1, 5), tens(1, 30)}, 3, 0, -1, -1, 0)
	// A lesser number in front counts more than any number behind it.
	checkBestPlaces(t, []impl.Label{tens(1, 10, 0), tens(1, 10, 30, 0)}, 2, 0, 1)
	checkBestPlaces(t, []impl.Label{tens(2, 0, 20), tens(1, 0), tens(1, 20)}, 3, 0, -1, 0)
	checkBestPlaces(t, []impl.Label{tens(1, 0), tens(1, 20), tens(2, 0, 20)}, 3, -1, 0, 0)
}

func TestBestPlacesFollowTheRule(t *testing.T) {
	for _, list := range labelLists() {
		places, weight := ruleBestPlaces(list)
		checkBestPlaces(t, list, weight, places...)
	}
	// Each list of three labels out of these.
	some := []impl.Label{tens(1, 0), tens(2, 0), tens(1, 5), tens(1, 10, 0), tens(3, 9, 10), tens(2, 20, 5, 0), labelIn(0, 25, 3, 0), labelIn(1, 10, 1, 0, 5)}
	for _, a := range some {
		for _, b := range some {
			for _, c := range some {
				list := []impl.Label{a, b, c}
				places, weight := ruleBestPlaces(list)
				checkBestPlaces(t, list, weight, places...)
				checkGreedyPlaces(t, list, ruleGreedy(list)...)
			}
		}
	}
}

func TestGreedyPlaces(t *testing.T) {
	checkGreedyPlaces(t, nil)
	checkGreedyPlaces(t, []impl.Label{})
	checkGreedyPlaces(t, []impl.Label{tens(7, 3)}, 0)
	checkGreedyPlaces(t, []impl.Label{tens(7, maxAlong, 0, 3)}, 0)
	checkGreedyPlaces(t, apart(maxLabels), make([]int64, maxLabels)...)
	// The heavier one comes first, wherever it stands.
	checkGreedyPlaces(t, []impl.Label{tens(2, 0), tens(1, 5)}, 0, -1)
	checkGreedyPlaces(t, []impl.Label{tens(1, 0), tens(2, 5)}, -1, 0)
	checkGreedyPlaces(t, []impl.Label{tens(999, 0), tens(maxWeightL, 5), tens(998, 12)}, -1, 0, -1)
	for heavy := range maxLabels {
		list := slices.Repeat([]impl.Label{tens(9, 3, 2, 4)}, maxLabels)
		list[heavy].Weight = 10
		places := allLeftOut(maxLabels)
		places[heavy] = 0
		checkGreedyPlaces(t, list, places...)
	}
	// The first of the Starts at which there is room, in their own order.
	checkGreedyPlaces(t, []impl.Label{tens(2, 0), tens(1, 5, 30, 10)}, 0, 1)
	checkGreedyPlaces(t, []impl.Label{tens(2, 0), tens(1, 5, 9, 10)}, 0, 2)
	checkGreedyPlaces(t, []impl.Label{tens(2, 0), tens(1, 5, 9, 1)}, 0, -1)
	checkGreedyPlaces(t, []impl.Label{tens(1, 0, 20, 10), tens(2, 5, 0), tens(3, 15, 0)}, -1, 0, 0)
	checkGreedyPlaces(t, []impl.Label{tens(1, 0, 20, 25), tens(2, 5, 0), tens(3, 15, 0)}, 2, 0, 0)
	// One that is left out keeps nothing out.
	checkGreedyPlaces(t, []impl.Label{tens(3, 0), tens(2, 5), tens(1, 14)}, 0, -1, 0)
	checkGreedyPlaces(t, []impl.Label{tens(1, 14), tens(2, 5), tens(3, 0)}, 0, -1, 0)
	// Rows.
	checkGreedyPlaces(t, []impl.Label{labelIn(0, 10, 1, 0), labelIn(1, 10, 2, 0), labelIn(0, 10, 3, 5), labelIn(1, 10, 2, 9, 10)}, -1, 0, 0, 1)
}

// Of labels with the same Weight, the first one of the list comes first.
func TestGreedyPlacesWithEqualWeights(t *testing.T) {
	for many := 1; many <= maxLabels; many++ {
		checkGreedyPlaces(t, slices.Repeat([]impl.Label{tens(5, 3)}, many), append([]int64{0}, allLeftOut(many-1)...)...)
		checkGreedyPlaces(t, slices.Repeat([]impl.Label{tens(5, 0, 10)}, many), append([]int64{0, 1}, allLeftOut(max(many-2, 0))...)[:many]...)
		checkGreedyPlaces(t, slices.Repeat([]impl.Label{tens(5, 20, 0, 10)}, many), append([]int64{0, 1, 2}, allLeftOut(max(many-3, 0))...)[:many]...)
		checkGreedyPlaces(t, slices.Repeat([]impl.Label{tens(5, 5, 10, 0)}, many), append([]int64{0}, allLeftOut(many-1)...)...)
	}
	// The first one keeps out two others of the same Weight.
	checkGreedyPlaces(t, keptOut(5, 5, 5), 0, -1, -1)
	checkGreedyPlaces(t, keptOut(5, 5, 6), -1, 0, 0)
	checkGreedyPlaces(t, keptOut(5, 6, 5), -1, 0, 0)
	checkGreedyPlaces(t, []impl.Label{tens(5, 0), labelIn(0, 30, 5, 0), tens(5, 20)}, 0, -1, 0)
	// Some have the same Weight: lighter and heavier ones stand between them.
	checkGreedyPlaces(t, []impl.Label{tens(4, 3), tens(5, 3), tens(5, 3)}, -1, 0, -1)
	checkGreedyPlaces(t, []impl.Label{tens(5, 3), tens(4, 3), tens(5, 3)}, 0, -1, -1)
	checkGreedyPlaces(t, []impl.Label{tens(5, 0), tens(4, 10), tens(5, 5), tens(4, 19), tens(6, 29), tens(4, 11), tens(6, 30)}, 0, 0, -1, -1, 0, -1, -1)
	// Each one of all orders of three labels, of which the second one overlaps with both others.
	three := []impl.Label{tens(5, 0), tens(5, 9), tens(5, 18)}
	for _, order := range ordersFrom(nil, 3) {
		list := []impl.Label{three[order[0]], three[order[1]], three[order[2]]}
		var want []int64
		for _, k := range order {
			isPlaced := (k == 1) == (order[0] == 1)
			want = append(want, map[bool]int64{true: 0, false: -1}[isPlaced])
		}
		checkGreedyPlaces(t, list, want...)
	}
}

func TestGreedyPlacesFollowTheRule(t *testing.T) {
	for _, list := range labelLists() {
		checkGreedyPlaces(t, list, ruleGreedy(list)...)
	}
}

// A labelsCall is a call of a function with a list of labels; it returns all results, the code as the last one.
type labelsCall struct {
	name string
	call func(list []impl.Label) []any
}

// callsOfPlaces has the calls of all functions with places.
func callsOfPlaces(places []int64) []labelsCall {
	shown := fmt.Sprint(" ", len(places), places[:min(len(places), 10)])
	calls := []labelsCall{
		{"PlacesFault" + shown, func(list []impl.Label) []any { return resultsOf(impl.PlacesFault(list, places)) }},
		{"WeightPlaced" + shown, func(list []impl.Label) []any { return resultsOf(impl.WeightPlaced(list, places)) }},
		{"LeftOut" + shown, func(list []impl.Label) []any { return resultsOf(impl.LeftOut(list, places)) }},
	}
	for _, row := range append(rowArgument.right, rowArgument.wrong...) {
		calls = append(calls, labelsCall{fmt.Sprint("RowFill", shown, " ", row), func(list []impl.Label) []any { return resultsOf(impl.RowFill(list, places, row)) }})
	}
	return calls
}

// callsOfLabels has calls of all functions that refuse a list that is not valid; some of their other arguments are wrong.
func callsOfLabels() []labelsCall {
	calls := []labelsCall{
		{"BestPlaces", func(list []impl.Label) []any { return resultsOf(impl.BestPlaces(list)) }},
		{"GreedyPlaces", func(list []impl.Label) []any { return resultsOf(impl.GreedyPlaces(list)) }},
	}
	for _, places := range [][]int64{nil, {0}, {-2}, {0, 0}, {0, 0, 0}, {0, -1, 3}, make([]int64, maxLabels), make([]int64, maxLabels+1), allLeftOut(maxLabels), allLeftOut(maxLabels + 1), {math.MinInt64, math.MaxInt64}} {
		calls = append(calls, callsOfPlaces(places)...)
	}
	return calls
}

// A list that is not valid is refused before any other argument.
func TestWrongLabelsAreRefused(t *testing.T) {
	for _, x := range callsOfLabels() {
		for i, wrong := range wrongLabels() {
			for _, list := range listsWithLabel(wrong) {
				checkRefused(t, fmt.Sprint(x.name, " of ", len(list), " with the wrong label ", i), x.call(list), impl.ErrInvalid)
			}
		}
	}
}

func TestListsOfLabelsHaveTheirLimit(t *testing.T) {
	for _, l := range []impl.Label{tens(1, 0), labelIn(maxRowsL-1, 1, 1, 0, maxAlong, 5), labelIn(3, maxAlong, maxWeightL, 5)} {
		for _, many := range []int{maxLabels + 1, maxLabels + 2, 2 * maxLabels, 100000} {
			list := slices.Repeat([]impl.Label{l}, many)
			for _, x := range slices.Concat(callsOfLabels(), callsOfPlaces(allLeftOut(many)), callsOfPlaces(make([]int64, many))) {
				checkRefused(t, fmt.Sprint(x.name, " of ", many), x.call(list), impl.ErrInvalid)
			}
		}
		list := slices.Repeat([]impl.Label{l}, maxLabels)
		checkFault(t, list, 1, make([]int64, maxLabels)...)
		checkFault(t, list, -1, allLeftOut(maxLabels)...)
		checkWeight(t, list, maxLabels*l.Weight, make([]int64, maxLabels)...)
	}
}

// wrongPlacesOf are not one for each label, or no index of a Start of their label.
func wrongPlacesOf(list []impl.Label) [][]int64 {
	many := len(list)
	lists := [][]int64{make([]int64, many+1), allLeftOut(many + 1), make([]int64, 2*many+1), make([]int64, 100000), allLeftOut(100000)}
	for short := range many {
		lists = append(lists, make([]int64, short), allLeftOut(short))
	}
	for at, l := range list {
		for _, wrong := range []int64{-2, int64(len(l.Starts)), int64(len(l.Starts)) + 1, -maxLabels, l.Starts[0] + 3, maxAlong, 1 << 32, -1 << 32, math.MinInt64, math.MinInt64 + 1, math.MaxInt64 - 1, math.MaxInt64} {
			for _, places := range [][]int64{make([]int64, many), allLeftOut(many)} {
				places[at] = wrong
				lists = append(lists, places, append(slices.Clone(places), 0), places[:at])
			}
		}
	}
	return slices.DeleteFunc(lists, func(places []int64) bool { return len(places) == many && areIndices(list, places) })
}

func areIndices(list []impl.Label, places []int64) bool {
	for i, place := range places {
		if place < -1 || place >= int64(len(list[i].Starts)) {
			return false
		}
	}
	return true
}

// listsForErrors has labels with one, two and MaxStarts Starts, in different orders, so that an index is one of a Start for some of them only.
func listsForErrors() [][]impl.Label {
	one, two, three := tens(1, 0), tens(2, 9, 10), tens(3, 40, 20, 0)
	return [][]impl.Label{
		nil, {one}, {two}, {three}, {one, two, three}, {three, two, one}, {two, three, one, three}, labelsOfExample(), keptOut(1, 1, 1), apart(maxLabels), slices.Repeat([]impl.Label{three}, maxLabels),
	}
}

// Places that are not as told are refused before the row is looked at, and before an overlap.
func TestErrorsOfPlaces(t *testing.T) {
	for _, list := range listsForErrors() {
		for _, places := range wrongPlacesOf(list) {
			for _, x := range callsOfPlaces(places) {
				checkRefused(t, fmt.Sprint(x.name, " of ", list), x.call(list), impl.ErrRange)
			}
		}
	}
}

// Each index of a Start, and -1, is one that is told.
func TestAllIndicesOfStartsArePlaces(t *testing.T) {
	for _, list := range listsForErrors() {
		if len(list) == maxLabels {
			continue
		}
		everyPlaces(list, func(places []int64) {
			checkFault(t, list, tableOf(list).fault(places), places...)
			checkWeight(t, list, ruleWeight(list, places), places...)
		})
	}
}

// A row that is none is refused before an overlap.
func TestErrorsOfRowFill(t *testing.T) {
	for _, list := range listsForErrors() {
		for _, places := range [][]int64{make([]int64, len(list)), allLeftOut(len(list))} {
			for _, row := range rowArgument.wrong {
				checkNoFill(t, list, row, impl.ErrRange, places...)
			}
			for row := range int64(maxRowsL) {
				if tableOf(list).fault(places) >= 0 {
					checkNoFill(t, list, row, impl.ErrClash, places...)
				} else {
					checkFill(t, list, row, ruleFill(list, places, row), places...)
				}
			}
		}
	}
}

// ruleFill counts the numbers of a row that are covered.
func ruleFill(list []impl.Label, places []int64, row int64) int64 {
	covered := map[int64]bool{}
	for i, l := range list {
		for n := range l.Width {
			if places[i] >= 0 && l.Row == row {
				covered[l.Starts[places[i]]+n] = true
			}
		}
	}
	return int64(len(covered))
}
