package tests

import (
	"fmt"
	"math"
	"math/big"
	"math/rand"
	"slices"
	"testing"

	"loop.example/g01055/impl"
)

const (
	maxChain  = 24
	maxPlace  = 2000
	maxWithin = 3000
)

var (
	boundArgument = argument{[]int64{0, 1, maxWithin}, []int64{-1, maxWithin + 1, -maxWithin, math.MinInt64, math.MinInt64 + 1, math.MaxInt64 - 1, math.MaxInt64}}
	manyArgument  = argument{[]int64{2, 3, maxChain}, []int64{1, 0, -1, -2, maxChain + 1, math.MinInt64, math.MinInt64 + 1, math.MaxInt64 - 1, math.MaxInt64}}
)

// chainOf returns the chain with these numbers as X and Y, in turn.
func chainOf(numbers ...int64) []impl.Place {
	var chain []impl.Place
	for pair := range slices.Chunk(numbers, 2) {
		chain = append(chain, impl.Place{X: pair[0], Y: pair[1]})
	}
	return chain
}

func outlineOfExample() []impl.Place { return chainOf(0, 0, 10, 1, 20, 0, 30, 9) }

// zigzag goes up and down by one at each step, so that no line stands for a part with other points within 0.
func zigzag(many int) []impl.Place {
	chain := make([]impl.Place, many)
	for i := range chain {
		chain[i] = impl.Place{X: int64(i), Y: int64(i % 2)}
	}
	return chain
}

// stair goes to one side and up in turn, and lies along a slanting line.
func stair(many int, width, height int64) []impl.Place {
	chain := make([]impl.Place, many)
	for i := range chain {
		chain[i] = impl.Place{X: width * int64((i+1)/2), Y: height * int64(i/2)}
	}
	return chain
}

// acrossPaper goes from one corner of the paper to the opposite one, again and again.
func acrossPaper(many int) []impl.Place {
	chain := make([]impl.Place, many)
	for i := range chain {
		if i%2 == 1 {
			chain[i] = impl.Place{X: maxPlace, Y: maxPlace}
		}
	}
	return chain
}

// roundabout goes once around a square and ends where it begins.
func roundabout(size int64) []impl.Place {
	return chainOf(0, 0, size, 0, 2*size, 0, 2*size, size, 2*size, 2*size, size, 2*size, 0, 2*size, 0, size, 0, 0)
}

// thereAndBack goes along a chain to its end, and back to its beginning.
func thereAndBack(chain []impl.Place) []impl.Place {
	back := slices.Clone(chain)
	slices.Reverse(back)
	return append(slices.Clone(chain), back[1:]...)
}

// drawnChain returns a chain that is always the same for equal r; few greatest numbers lead to many equal places and whole distances.
func drawnChain(r *rand.Rand, many int, greatest int64) []impl.Place {
	chain := make([]impl.Place, many)
	for i := range chain {
		chain[i] = impl.Place{X: r.Int63n(greatest + 1), Y: r.Int63n(greatest + 1)}
	}
	return chain
}

// shortChains has chains of few places, of which all lists of points can be looked at.
func shortChains() [][]impl.Place {
	list := [][]impl.Place{
		outlineOfExample(), roundabout(1), roundabout(10), roundabout(1000), make([]impl.Place, 2), make([]impl.Place, 9),
		thereAndBack(outlineOfExample()), thereAndBack(zigzag(4)), thereAndBack(acrossPaper(3)), thereAndBack(chainOf(5, 5, 9, 8, 20, 8)),
		acrossPaper(2), acrossPaper(7), zigzag(2), zigzag(9), stair(9, 10, 10), stair(8, 3, 1),
		chainOf(0, 0, 20, 0, 20, 0, 20, 0, 20, 20), chainOf(0, 0, 100, 3, 0, 3, 200, 0), chainOf(9, 2, 5, 0, 2, 0, 8, 5, 6, 12),
	}
	r := rand.New(rand.NewSource(16))
	for _, greatest := range []int64{1, 2, 5, 12, 12, 40, maxPlace} {
		for many := 2; many <= 8; many++ {
			list = append(list, drawnChain(r, many, greatest))
		}
	}
	return list
}

// longChains has chains of up to MaxChain places.
func longChains() [][]impl.Place {
	list := [][]impl.Place{
		zigzag(maxChain), stair(maxChain, 10, 10), stair(maxChain, 70, 3), acrossPaper(maxChain), make([]impl.Place, maxChain), thereAndBack(stair(12, 9, 4)),
		thereAndBack(roundabout(7)), append(roundabout(500), roundabout(500)...), append(thereAndBack(outlineOfExample()), roundabout(9)...),
	}
	// A chain that is drawn near to a curve.
	var curve []impl.Place
	for i := range int64(maxChain) {
		curve = append(curve, impl.Place{X: 80 * i, Y: i * (23 - i) * 7})
	}
	list = append(list, curve)
	r := rand.New(rand.NewSource(17))
	for _, greatest := range []int64{1, 3, 20, 300, maxPlace} {
		for _, many := range []int{10, 17, maxChain - 1, maxChain} {
			list = append(list, drawnChain(r, many, greatest))
		}
	}
	return list
}

func allChains() [][]impl.Place { return append(shortChains(), longChains()...) }

// wrongNumbers are neither X nor Y of a place.
func wrongPlaceNumbers() []int64 {
	return []int64{-1, maxPlace + 1, -maxPlace, 2 * maxPlace, 1 << 32, math.MinInt64, math.MinInt64 + 1, math.MaxInt64 - 1, math.MaxInt64}
}

// wrongChains has lists of places that are no chains.
func wrongChains() [][]impl.Place {
	list := [][]impl.Place{nil, {}, {{}}, {{X: maxPlace, Y: maxPlace}}, make([]impl.Place, maxChain+1), zigzag(maxChain + 1), zigzag(1000), {{X: -1}}}
	for _, n := range wrongPlaceNumbers() {
		for _, many := range []int{2, 3, maxChain} {
			for _, at := range []int{0, many / 2, many - 1} {
				for _, wrong := range []impl.Place{{X: n}, {Y: n}, {X: n, Y: maxPlace}, {X: maxPlace, Y: n}, {X: n, Y: n}} {
					chain := zigzag(many)
					chain[at] = wrong
					list = append(list, chain)
				}
			}
		}
	}
	return append(list, chainOf(math.MinInt64, math.MinInt64, math.MaxInt64, math.MaxInt64, math.MaxInt64, math.MinInt64))
}

// ruleStays tells by the theorem of Pythagoras whether the line from one point to another one is within the bound of each point between them.
func ruleStays(chain []impl.Place, from, to, bound int64) bool {
	a, b := chain[from], chain[to]
	line := big.NewInt((b.X-a.X)*(b.X-a.X) + (b.Y-a.Y)*(b.Y-a.Y))
	for _, p := range chain[from+1 : to] {
		away := big.NewInt((p.X-a.X)*(p.X-a.X) + (p.Y-a.Y)*(p.Y-a.Y))
		most := big.NewInt(bound * bound)
		if a != b {
			// The squares of both sides of the right angle, multiplied by that of the line.
			along := big.NewInt((p.X-a.X)*(b.X-a.X) + (p.Y-a.Y)*(b.Y-a.Y))
			away.Mul(away, line)
			away.Sub(away, along.Mul(along, along))
			most.Mul(most, line)
		}
		if away.Cmp(most) > 0 {
			return false
		}
	}
	return true
}

// ruleStand tells whether points stand for a chain.
func ruleStand(chain []impl.Place, bound int64, points []int64) bool {
	for i := range len(points) - 1 {
		if points[i] >= points[i+1] || !ruleStays(chain, points[i], points[i+1], bound) {
			return false
		}
	}
	return points[0] == 0 && points[len(points)-1] == int64(len(chain)-1)
}

// listsOfPoints gives out all lists of so many indices that begin with the points, go on and end with the last point, number by number.
func listsOfPoints(points []int64, many int, last int64, yield func([]int64) bool) bool {
	if len(points) == many-1 {
		return yield(append(slices.Clone(points), last))
	}
	for next := points[len(points)-1] + 1; next < last; next++ {
		if !listsOfPoints(append(slices.Clone(points), next), many, last, yield) {
			return false
		}
	}
	return true
}

// ruleFewestPoints looks at all lists of two points, then at all of three, and so on.
func ruleFewestPoints(chain []impl.Place, bound int64) []int64 {
	var fewest []int64
	for many := 2; fewest == nil; many++ {
		listsOfPoints([]int64{0}, many, int64(len(chain)-1), func(points []int64) bool {
			if ruleStand(chain, bound, points) {
				fewest = points
			}
			return fewest == nil
		})
	}
	return fewest
}

// ruleMany returns the number of fewest points: it looks which points are reached by one line, by two, and so on.
func ruleMany(chain []impl.Place, bound int64) int {
	reached := map[int]bool{0: true}
	many := 1
	for !reached[len(chain)-1] {
		next := map[int]bool{}
		for from := range reached {
			for to := from + 1; to < len(chain); to++ {
				if ruleStays(chain, int64(from), int64(to), bound) {
					next[to] = true
				}
			}
		}
		reached = next
		many++
	}
	return many
}

// ruleLong tries the last point first, and then the one before it.
func ruleLong(chain []impl.Place, bound int64) []int64 {
	points := []int64{0}
	for last := int64(len(chain) - 1); points[len(points)-1] < last; {
		to := last
		for !ruleStays(chain, points[len(points)-1], to, bound) {
			to--
		}
		points = append(points, to)
	}
	return points
}

// fewBounds has the bounds at which something changes for a chain, and those beside them.
func fewBounds(chain []impl.Place) []int64 {
	list := []int64{0, 1, 2, 3, 10, 100, 1414, 1415, maxWithin - 1, maxWithin}
	for _, many := range []int64{2, 3, 4, int64(len(chain))} {
		bound, _ := impl.LeastBound(chain, min(many, maxChain))
		list = append(list, bound, max(bound-1, 0))
	}
	slices.Sort(list)
	return slices.Compact(list)
}

func checkFewest(t *testing.T, chain []impl.Place, bound int64, want ...int64) {
	t.Helper()
	points, code := impl.FewestPoints(chain, bound)
	checkList(t, fmt.Sprint("FewestPoints ", chain, bound), points, code, want...)
}

func checkLong(t *testing.T, chain []impl.Place, bound int64, want ...int64) {
	t.Helper()
	points, code := impl.LongSteps(chain, bound)
	checkList(t, fmt.Sprint("LongSteps ", chain, bound), points, code, want...)
}

func checkStays(t *testing.T, chain []impl.Place, from, to, bound int64, want bool) {
	t.Helper()
	stays, code := impl.StaysWithin(chain, from, to, bound)
	what := fmt.Sprint("StaysWithin ", chain, from, to, bound)
	same(t, what, stays, want)
	same(t, what, code, impl.OK)
}

func checkLeast(t *testing.T, chain []impl.Place, many, want int64) {
	t.Helper()
	same(t, fmt.Sprint("LeastBound ", chain, many), resultOf(impl.LeastBound(chain, many)), result{want, impl.OK})
}

// allPoints returns the indices of so many points.
func allPoints(many int) []int64 {
	points := make([]int64, many)
	for i := range points {
		points[i] = int64(i)
	}
	return points
}

func TestLimitsOfOutlines(t *testing.T) {
	same(t, "MaxChain", impl.MaxChain, maxChain)
	same(t, "MaxPlace", impl.MaxPlace, maxPlace)
	same(t, "MaxWithin", impl.MaxWithin, maxWithin)
}

func TestExampleOfOutlines(t *testing.T) {
	checkFewest(t, outlineOfExample(), 1, 0, 2, 3)
}

func TestValidChain(t *testing.T) {
	for _, chain := range allChains() {
		same(t, fmt.Sprint("ValidChain ", chain), impl.ValidChain(chain), true)
	}
	for many := range maxChain + 10 {
		same(t, fmt.Sprint("ValidChain of ", many), impl.ValidChain(make([]impl.Place, many)), many >= 2 && many <= maxChain)
	}
	same(t, "ValidChain of very many", impl.ValidChain(make([]impl.Place, 100000)), false)
	for _, x := range []int64{0, 1, maxPlace - 1, maxPlace} {
		for _, y := range []int64{0, 1, maxPlace - 1, maxPlace} {
			same(t, fmt.Sprint("ValidChain with ", x, y), impl.ValidChain(chainOf(x, y, 0, 0, x, y)), true)
		}
	}
	for _, chain := range wrongChains() {
		same(t, fmt.Sprint("ValidChain ", chain), impl.ValidChain(chain), false)
	}
}

func TestSameChain(t *testing.T) {
	for i, a := range append(allChains(), wrongChains()...) {
		if len(a) == 0 || len(a) > maxChain+1 {
			continue
		}
		same(t, fmt.Sprint("SameChain of a copy of ", i), impl.SameChain(a, slices.Clip(slices.Clone(a))), true)
		for k := range a {
			for _, other := range []impl.Place{{X: a[k].X + 1, Y: a[k].Y}, {X: a[k].X, Y: a[k].Y - 1}, {X: a[k].Y + 1, Y: a[k].X}} {
				b := slices.Clone(a)
				b[k] = other
				same(t, fmt.Sprint("SameChain ", a, b), impl.SameChain(a, b), false)
			}
		}
		for _, b := range [][]impl.Place{a[:len(a)-1], a[1:], append(slices.Clone(a), impl.Place{}), nil, {}} {
			same(t, fmt.Sprint("SameChain ", a, b), impl.SameChain(a, b), false)
			same(t, fmt.Sprint("SameChain ", b, a), impl.SameChain(b, a), false)
		}
	}
	for _, x := range [][2][]impl.Place{{nil, nil}, {nil, {}}, {{}, nil}, {{}, {}}} {
		same(t, "SameChain of no places", impl.SameChain(x[0], x[1]), true)
	}
	same(t, "SameChain of one place", impl.SameChain(chainOf(-7, 8), chainOf(-7, 8)), true)
	same(t, "SameChain from the end", impl.SameChain(chainOf(0, 0, 1, 1), chainOf(1, 1, 0, 0)), false)
}

func TestStaysWithin(t *testing.T) {
	for _, x := range []struct {
		chain           []impl.Place
		from, to, least int64
	}{
		// Parts with no point between.
		{outlineOfExample(), 0, 1, 0}, {outlineOfExample(), 2, 3, 0}, {chainOf(7, 7, 7, 7), 0, 1, 0}, {acrossPaper(maxChain), 22, 23, 0},
		{outlineOfExample(), 0, 2, 1}, {outlineOfExample(), 1, 3, 5}, {outlineOfExample(), 0, 3, 6},
		// Distances that are whole, to the left and to the right, along X, along Y and slanting.
		{chainOf(0, 0, 5, 3, 10, 0), 0, 2, 3}, {chainOf(0, 3, 5, 0, 10, 3), 0, 2, 3}, {chainOf(0, 0, 3, 5, 0, 10), 0, 2, 3}, {chainOf(3, 0, 0, 5, 3, 10), 0, 2, 3},
		{chainOf(0, 0, 0, 5, 4, 3), 0, 2, 4}, {chainOf(4, 3, 0, 5, 0, 0), 0, 2, 4}, {chainOf(0, 0, 5, 0, 4, 3), 0, 2, 3}, {chainOf(0, 0, 5, 5, 10, 10), 0, 2, 0},
		// The squares of the distances are 23.04, 16.82, 0.5, 25.02 and 0.01; they are not rounded down.
		{chainOf(0, 0, 0, 6, 4, 3), 0, 2, 5}, {chainOf(0, 0, 6, 5, 7, 1), 0, 2, 5}, {chainOf(0, 0, 0, 1, 1, 1), 0, 2, 1}, {chainOf(0, 0, 2, 8, 6, 9, 6, 6), 0, 3, 5},
		{chainOf(0, 0, 1, 1, 11, 10), 0, 2, 1}, {chainOf(0, 0, 1000, 999, 2000, 1999), 0, 2, 1},
		// A line goes on beyond its points.
		{chainOf(0, 0, 20, 0, 10, 0), 0, 2, 0}, {chainOf(10, 0, 0, 0, 20, 0), 0, 2, 0}, {chainOf(0, 0, 2000, 2000, 1, 1), 0, 2, 0}, {chainOf(0, 0, 2000, 9, 1, 0), 0, 2, 9},
		// Lines through two equal places.
		{chainOf(0, 0, 10, 0, 0, 0), 0, 2, 10}, {chainOf(5, 5, 8, 9, 5, 5), 0, 2, 5}, {chainOf(5, 5, 2, 1, 5, 5), 0, 2, 5}, {chainOf(5, 5, 6, 6, 5, 5), 0, 2, 2},
		{chainOf(5, 5, 5, 5, 5, 5), 0, 2, 0}, {make([]impl.Place, maxChain), 0, maxChain - 1, 0}, {make([]impl.Place, maxChain), 3, 20, 0},
		{thereAndBack(outlineOfExample()), 0, 6, 32}, {thereAndBack(outlineOfExample()), 1, 5, 22}, {thereAndBack(outlineOfExample()), 2, 4, 14}, {roundabout(10), 0, 8, 29},
		// The farthest point is the first one, one in the middle or the last one; it lies before others, or behind them.
		{chainOf(0, 0, 1, 7, 2, 3, 9, 2, 10, 0), 0, 4, 7}, {chainOf(0, 0, 1, 3, 2, 7, 9, 2, 10, 0), 0, 4, 7}, {chainOf(0, 0, 1, 3, 2, 2, 9, 7, 10, 0), 0, 4, 7},
		{chainOf(0, 9, 1, 10, 5, 0, 9, 11, 10, 9), 0, 4, 9}, {chainOf(0, 0, 100, 3, 0, 3, 200, 0), 0, 2, 100}, {chainOf(0, 0, 100, 3, 0, 3, 200, 0), 0, 3, 3},
		// From corner to corner of the paper.
		{chainOf(0, 0, 2000, 2000, 0, 0), 0, 2, 2829}, {chainOf(1, 0, 2000, 2000, 0, 1), 0, 2, 2828}, {chainOf(0, 0, 0, 2000, 2000, 0), 0, 2, 2000},
		{chainOf(0, 0, 2000, 0, 2000, 2000), 0, 2, 1415}, {acrossPaper(maxChain), 0, 22, 2829}, {acrossPaper(maxChain), 0, 23, 0},
	} {
		checkStays(t, x.chain, x.from, x.to, x.least, true)
		checkStays(t, x.chain, x.from, x.to, maxWithin, true)
		if x.least > 0 {
			checkStays(t, x.chain, x.from, x.to, x.least-1, false)
			checkStays(t, x.chain, x.from, x.to, 0, false)
		}
	}
}

func TestStaysWithinFollowsTheRule(t *testing.T) {
	for _, chain := range allChains() {
		for _, bound := range fewBounds(chain) {
			for to := range int64(len(chain)) {
				for from := range to {
					checkStays(t, chain, from, to, bound, ruleStays(chain, from, to, bound))
				}
			}
		}
	}
}

func TestFewestPointsAndLongSteps(t *testing.T) {
	for _, x := range []struct {
		chain     []impl.Place
		bound     int64
		few, long []int64
	}{
		{outlineOfExample(), 0, allPoints(4), allPoints(4)}, {outlineOfExample(), 1, []int64{0, 2, 3}, []int64{0, 2, 3}},
		{outlineOfExample(), 5, []int64{0, 1, 3}, []int64{0, 2, 3}}, {outlineOfExample(), 6, []int64{0, 3}, []int64{0, 3}},
		{outlineOfExample(), maxWithin, []int64{0, 3}, []int64{0, 3}},
		// Two places, and MaxChain places.
		{chainOf(3, 4, 5, 6), 0, []int64{0, 1}, []int64{0, 1}}, {chainOf(3, 4, 3, 4), 0, []int64{0, 1}, []int64{0, 1}}, {chainOf(3, 4, 5, 6), maxWithin, []int64{0, 1}, []int64{0, 1}},
		{zigzag(maxChain), 0, allPoints(maxChain), allPoints(maxChain)}, {zigzag(maxChain), 1, []int64{0, 23}, []int64{0, 23}},
		{make([]impl.Place, maxChain), 0, []int64{0, 23}, []int64{0, 23}}, {acrossPaper(maxChain), 0, []int64{0, 23}, []int64{0, 23}},
		{acrossPaper(maxChain - 1), 0, []int64{0, 1, 22}, []int64{0, 21, 22}}, {acrossPaper(maxChain - 1), 2829, []int64{0, 22}, []int64{0, 22}},
		// Chains that come back.
		{chainOf(0, 0, 10, 0, 0, 0), 9, allPoints(3), allPoints(3)}, {chainOf(0, 0, 10, 0, 0, 0), 10, []int64{0, 2}, []int64{0, 2}},
		{chainOf(0, 0, 20, 0, 10, 0), 0, []int64{0, 2}, []int64{0, 2}}, {roundabout(10), 0, []int64{0, 2, 4, 6, 8}, []int64{0, 2, 4, 6, 8}},
		{roundabout(10), 28, []int64{0, 1, 8}, []int64{0, 7, 8}}, {roundabout(10), 29, []int64{0, 8}, []int64{0, 8}},
		{thereAndBack(outlineOfExample()), 0, allPoints(7), allPoints(7)}, {thereAndBack(chainOf(0, 0, 5, 0, 9, 0)), 0, []int64{0, 1, 4}, []int64{0, 3, 4}},
		{append(roundabout(10), roundabout(10)...), 0, []int64{0, 2, 4, 6, 8, 11, 13, 15, 17}, []int64{0, 2, 4, 6, 9, 11, 13, 15, 17}},
		// Several lists with the fewest points, among equal places and among others.
		{chainOf(0, 0, 20, 0, 20, 0, 20, 0, 20, 20), 0, []int64{0, 1, 4}, []int64{0, 3, 4}}, {chainOf(8, 4, 0, 3, 2, 3, 2, 4, 7, 0, 0, 8), 2, []int64{0, 1, 4, 5}, []int64{0, 3, 4, 5}},
		{chainOf(7, 2, 5, 11, 7, 8, 6, 3, 5, 5, 9, 3), 2, []int64{0, 1, 3, 5}, []int64{0, 2, 4, 5}},
		// A greatest step behind shorter ones that the line may not stand for.
		{chainOf(0, 0, 100, 3, 0, 3, 200, 0), 2, allPoints(4), allPoints(4)}, {chainOf(0, 0, 100, 3, 0, 3, 200, 0), 3, []int64{0, 3}, []int64{0, 3}},
		{chainOf(0, 0, 100, 3, 0, 3, 200, 0, 200, 90), 3, []int64{0, 3, 4}, []int64{0, 3, 4}},
		// The longest steps are not the fewest.
		{chainOf(9, 2, 5, 0, 2, 0, 8, 5, 6, 12), 4, []int64{0, 1, 4}, []int64{0, 2, 3, 4}}, {chainOf(10, 8, 7, 7, 1, 8, 2, 12, 12, 4, 10, 9), 3, []int64{0, 1, 4, 5}, []int64{0, 2, 3, 4, 5}},
	} {
		checkFewest(t, x.chain, x.bound, x.few...)
		checkLong(t, x.chain, x.bound, x.long...)
	}
}

func TestFewestPointsOfShortChains(t *testing.T) {
	for _, chain := range shortChains() {
		for _, bound := range fewBounds(chain) {
			checkFewest(t, chain, bound, ruleFewestPoints(chain, bound)...)
		}
	}
}

// Of a long chain, any list that begins like the told one, but with a lesser number, has to be longer.
func TestFewestPointsOfLongChains(t *testing.T) {
	for _, chain := range longChains() {
		for _, bound := range fewBounds(chain) {
			points, code := impl.FewestPoints(chain, bound)
			what := fmt.Sprint("FewestPoints ", chain, bound)
			same(t, what, code, impl.OK)
			same(t, what+" stand", ruleStand(chain, bound, points), true)
			same(t, what+" many", len(points), ruleMany(chain, bound))
			for i := range len(points) - 1 {
				rest := len(points) - i - 1
				for lesser := points[i] + 1; lesser < points[i+1]; lesser++ {
					if ruleStays(chain, points[i], lesser, bound) && ruleMany(chain[lesser:], bound) <= rest {
						t.Errorf("%s: got %v, but %d leads to as few points", what, points, lesser)
					}
				}
			}
		}
	}
}

func TestLongStepsFollowTheRule(t *testing.T) {
	for _, chain := range allChains() {
		for _, bound := range fewBounds(chain) {
			checkLong(t, chain, bound, ruleLong(chain, bound)...)
		}
	}
}

func TestLeastBound(t *testing.T) {
	example := outlineOfExample()
	for many, want := range map[int64]int64{2: 6, 3: 1, 4: 0, 5: 0, maxChain: 0} {
		checkLeast(t, example, many, want)
	}
	for many := int64(2); many <= maxChain; many++ {
		checkLeast(t, chainOf(3, 4, 5, 6), many, 0)
		checkLeast(t, make([]impl.Place, maxChain), many, 0)
		checkLeast(t, acrossPaper(maxChain), many, 0)
		if many < maxChain {
			checkLeast(t, zigzag(maxChain), many, 1)
		}
	}
	checkLeast(t, zigzag(maxChain), maxChain, 0)
	// One point less than there are.
	checkLeast(t, zigzag(maxChain-1), maxChain-1, 0)
	checkLeast(t, zigzag(maxChain-1), maxChain-2, 1)
	checkLeast(t, acrossPaper(maxChain-1), 2, 2829)
	checkLeast(t, acrossPaper(maxChain-1), 3, 0)
	checkLeast(t, chainOf(1, 0, 2000, 2000, 0, 1), 2, 2828)
	checkLeast(t, chainOf(0, 0, 10, 0, 0, 0), 2, 10)
	checkLeast(t, chainOf(0, 0, 6, 5, 7, 1), 2, 5)
	checkLeast(t, roundabout(10), 2, 29)
	checkLeast(t, roundabout(10), 5, 0)
	checkLeast(t, chainOf(0, 0, 100, 3, 0, 3, 200, 0), 2, 3)
	for _, chain := range shortChains() {
		for many := int64(2); many <= int64(len(chain)+1); many++ {
			bound := int64(0)
			for len(ruleFewestPoints(chain, bound)) > int(many) {
				bound++
			}
			checkLeast(t, chain, many, bound)
		}
		checkLeast(t, chain, maxChain, 0)
	}
}

// wrongPoints are not two indices at least of a chain of so many places, strictly increasing.
func wrongPoints(many int) [][]int64 {
	last := int64(many - 1)
	return [][]int64{
		nil, {}, {0}, {last}, {0, 0}, {last, last}, {last, 0}, {0, last, last}, {0, 0, last}, {0, last, 0}, {-1, 0}, {-1, last}, {0, last + 1}, {last, last + 1},
		{-1}, {last + 1}, {math.MinInt64, 0}, {0, math.MaxInt64}, {math.MinInt64, math.MaxInt64}, {math.MaxInt64, math.MinInt64}, {math.MinInt64}, {math.MaxInt64},
		{0, math.MinInt64}, {math.MaxInt64, 0}, {0, -1}, {last, -1}, append(allPoints(many), last), append(allPoints(many), last+1), make([]int64, 100000), allPoints(100000),
	}
}

func checkPicked(t *testing.T, chain []impl.Place, points []int64, want ...impl.Place) {
	t.Helper()
	picked, code := impl.PickPoints(chain, points)
	same(t, fmt.Sprint("PickPoints ", chain, points), code, impl.OK)
	if !slices.Equal(picked, want) {
		t.Errorf("PickPoints %v %v: got %v, want %v", chain, points, picked, want)
	}
}

func TestPickPoints(t *testing.T) {
	example := outlineOfExample()
	checkPicked(t, example, []int64{0, 2, 3}, chainOf(0, 0, 20, 0, 30, 9)...)
	checkPicked(t, example, []int64{0, 1}, chainOf(0, 0, 10, 1)...)
	checkPicked(t, example, []int64{2, 3}, chainOf(20, 0, 30, 9)...)
	checkPicked(t, example, []int64{1, 2}, chainOf(10, 1, 20, 0)...)
	checkPicked(t, example, []int64{1, 3}, chainOf(10, 1, 30, 9)...)
	for _, chain := range allChains() {
		checkPicked(t, chain, allPoints(len(chain)), chain...)
		checkPicked(t, chain, []int64{0, int64(len(chain) - 1)}, chain[0], chain[len(chain)-1])
		for _, points := range wrongPoints(len(chain)) {
			picked, code := impl.PickPoints(chain, points)
			same(t, fmt.Sprint("PickPoints of ", len(chain), " ", points[:min(len(points), 30)]), code, impl.ErrRange)
			same(t, "places of wrong points", len(picked), 0)
		}
	}
}

func TestReverseChain(t *testing.T) {
	for _, chain := range allChains() {
		back, code := impl.ReverseChain(chain)
		what := fmt.Sprint("ReverseChain ", chain)
		same(t, what, code, impl.OK)
		same(t, what+" many", len(back), len(chain))
		for i := range back {
			same(t, fmt.Sprint(what, " at ", i), back[i], chain[len(chain)-1-i])
		}
	}
}

func checkLengths(t *testing.T, chain []impl.Place, down, up int64) {
	t.Helper()
	same(t, fmt.Sprint("LengthBounds ", chain), pairOf(impl.LengthBounds(chain)), pairResult{down, up, impl.OK})
}

func TestLengthBounds(t *testing.T) {
	checkLengths(t, outlineOfExample(), 33, 36)
	checkLengths(t, chainOf(0, 0, 3, 4), 5, 5)
	checkLengths(t, chainOf(3, 4, 0, 0), 5, 5)
	checkLengths(t, chainOf(0, 4, 3, 0, 3, 7, 9, 7), 18, 18)
	checkLengths(t, chainOf(0, 0, 1, 1), 1, 2)
	checkLengths(t, chainOf(0, 0, 0, 1), 1, 1)
	checkLengths(t, chainOf(7, 7, 7, 7), 0, 0)
	checkLengths(t, chainOf(0, 0, 3, 4, 4, 5, 4, 5, 0, 5), 10, 11)
	checkLengths(t, chainOf(0, 0, 2000, 2000), 2828, 2829)
	checkLengths(t, chainOf(0, 0, 2000, 0, 2000, 2000), 4000, 4000)
	// Each length is rounded, and not their sum.
	checkLengths(t, zigzag(maxChain), 23, 46)
	checkLengths(t, make([]impl.Place, maxChain), 0, 0)
	checkLengths(t, acrossPaper(maxChain), 23*2828, 23*2829)
	for n := int64(1); n <= maxPlace; n++ {
		checkLengths(t, chainOf(n, 0, 0, 0), n, n)
		checkLengths(t, chainOf(0, 1, n, 0), n, n+1)
	}
	for _, chain := range allChains() {
		down, up := int64(0), int64(0)
		for i := range len(chain) - 1 {
			a, b := chain[i], chain[i+1]
			square := big.NewInt((a.X-b.X)*(a.X-b.X) + (a.Y-b.Y)*(a.Y-b.Y))
			root := new(big.Int).Sqrt(square)
			down += root.Int64()
			up += root.Int64()
			if root.Mul(root, root).Cmp(square) < 0 {
				up++
			}
		}
		checkLengths(t, chain, down, up)
	}
}

func checkSides(t *testing.T, chain []impl.Place, left, right int64) {
	t.Helper()
	same(t, fmt.Sprint("TurnsAside ", chain), pairOf(impl.TurnsAside(chain)), pairResult{left, right, impl.OK})
}

func TestTurnsAside(t *testing.T) {
	checkSides(t, outlineOfExample(), 0, 2)
	checkSides(t, chainOf(0, 0, 5, 5), 0, 0)
	checkSides(t, chainOf(0, 5, 1, 9, 2, 5, 3, 1, 4, 6, 10, 5), 2, 1)
	checkSides(t, chainOf(10, 5, 1, 9, 2, 5, 3, 1, 4, 6, 0, 5), 1, 2)
	checkSides(t, chainOf(5, 0, 9, 1, 5, 2, 1, 3, 6, 4, 5, 10), 1, 2)
	// Places on the line, between its ends and beyond them.
	checkSides(t, chainOf(4, 4, 5, 5, 9, 9, 0, 0, 4, 4, 8, 8), 0, 0)
	checkSides(t, chainOf(4, 4, 9, 10, 0, 1, 1, 0, 8, 8), 2, 1)
	// The ends are equal.
	checkSides(t, chainOf(4, 4, 9, 10, 0, 1, 1, 0, 4, 4), 0, 0)
	checkSides(t, roundabout(10), 0, 0)
	checkSides(t, make([]impl.Place, maxChain), 0, 0)
	checkSides(t, chainOf(0, 0, 0, 2000, 2000, 2000), 1, 0)
	checkSides(t, chainOf(0, 0, 2000, 0, 2000, 2000), 0, 1)
	checkSides(t, chainOf(0, 0, 2000, 1999, 1999, 2000, 2000, 2000), 1, 1)
	checkSides(t, zigzag(maxChain), 11, 11)
	checkSides(t, stair(maxChain, 10, 10), 11, 11)
	checkSides(t, stair(maxChain-1, 10, 10), 0, 11)
	for _, chain := range allChains() {
		left, right, code := impl.TurnsAside(chain)
		same(t, "TurnsAside", code, impl.OK)
		back, _ := impl.ReverseChain(chain)
		checkSides(t, back, right, left)
	}
}

// A chainCall is a call of a function with a chain; it returns all results, the code as the last one.
type chainCall struct {
	name string
	call func(chain []impl.Place) []any
}

func resultsOf(results ...any) []any { return results }

// callsOfChains has calls of all functions that refuse a chain that is not valid; some of their other arguments are wrong.
func callsOfChains() []chainCall {
	calls := []chainCall{
		{"ReverseChain", func(chain []impl.Place) []any { return resultsOf(impl.ReverseChain(chain)) }},
		{"LengthBounds", func(chain []impl.Place) []any { return resultsOf(impl.LengthBounds(chain)) }},
		{"TurnsAside", func(chain []impl.Place) []any { return resultsOf(impl.TurnsAside(chain)) }},
	}
	for _, n := range slices.Concat(boundArgument.right, boundArgument.wrong, manyArgument.right, manyArgument.wrong) {
		calls = append(calls,
			chainCall{fmt.Sprint("StaysWithin ", n), func(chain []impl.Place) []any { return resultsOf(impl.StaysWithin(chain, 0, 1, n)) }},
			chainCall{fmt.Sprint("StaysWithin from ", n), func(chain []impl.Place) []any { return resultsOf(impl.StaysWithin(chain, n, 1, n)) }},
			chainCall{fmt.Sprint("StaysWithin to ", n), func(chain []impl.Place) []any { return resultsOf(impl.StaysWithin(chain, 0, n, 0)) }},
			chainCall{fmt.Sprint("FewestPoints ", n), func(chain []impl.Place) []any { return resultsOf(impl.FewestPoints(chain, n)) }},
			chainCall{fmt.Sprint("LongSteps ", n), func(chain []impl.Place) []any { return resultsOf(impl.LongSteps(chain, n)) }},
			chainCall{fmt.Sprint("LeastBound ", n), func(chain []impl.Place) []any { return resultsOf(impl.LeastBound(chain, n)) }})
	}
	for i, points := range append(wrongPoints(2), allPoints(2)) {
		calls = append(calls, chainCall{fmt.Sprint("PickPoints ", i), func(chain []impl.Place) []any { return resultsOf(impl.PickPoints(chain, points)) }})
	}
	return calls
}

// checkRefused looks at the code, and that there is nothing beside it.
func checkRefused(t *testing.T, what string, results []any, want int64) {
	t.Helper()
	code := results[len(results)-1].(int64)
	same(t, what, code, want)
	for _, x := range results[:len(results)-1] {
		switch x := x.(type) {
		case bool:
			same(t, what+" beside the code", x, false)
		case int64:
			same(t, what+" beside the code", x, 0)
		case []int64:
			same(t, what+" beside the code", len(x), 0)
		case string:
			same(t, what+" beside the code", x, "")
		case []string:
			same(t, what+" beside the code", len(x), 0)
		case []impl.Place:
			same(t, what+" beside the code", len(x), 0)
		case []impl.Edit:
			same(t, what+" beside the code", len(x), 0)
		case [][]impl.Place:
			same(t, what+" beside the code", len(x), 0)
		default:
			t.Errorf("%s: nobody looks at a %T", what, x)
		}
	}
}

// A chain that is not valid is refused before any other argument.
func TestWrongChainsAreRefused(t *testing.T) {
	for _, x := range callsOfChains() {
		for _, chain := range wrongChains() {
			checkRefused(t, x.name, x.call(chain), impl.ErrInvalid)
		}
	}
}

func TestErrorsOfBounds(t *testing.T) {
	for _, chain := range [][]impl.Place{outlineOfExample(), chainOf(1, 1, 1, 1), zigzag(maxChain), roundabout(3)} {
		for _, n := range boundArgument.wrong {
			checkRefused(t, fmt.Sprint("FewestPoints ", n), resultsOf(impl.FewestPoints(chain, n)), impl.ErrRange)
			checkRefused(t, fmt.Sprint("LongSteps ", n), resultsOf(impl.LongSteps(chain, n)), impl.ErrRange)
		}
		for _, n := range manyArgument.wrong {
			checkRefused(t, fmt.Sprint("LeastBound ", n), resultsOf(impl.LeastBound(chain, n)), impl.ErrRange)
		}
	}
}

func TestErrorsOfStaysWithin(t *testing.T) {
	for _, chain := range [][]impl.Place{outlineOfExample(), chainOf(1, 1, 1, 1), zigzag(maxChain), roundabout(3)} {
		many := int64(len(chain))
		indices := []int64{math.MinInt64, math.MinInt64 + 1, -many, -1, 0, 1, many / 2, many - 1, many, many + 1, maxChain, maxChain + 1, 1 << 32, math.MaxInt64 - 1, math.MaxInt64}
		for _, from := range indices {
			for _, to := range indices {
				for _, bound := range append(boundArgument.wrong, boundArgument.right...) {
					what := fmt.Sprint("StaysWithin of ", many, " ", from, to, bound)
					if from >= 0 && from < to && to < many && slices.Contains(boundArgument.right, bound) {
						_, code := impl.StaysWithin(chain, from, to, bound)
						same(t, what, code, impl.OK)
					} else {
						checkRefused(t, what, resultsOf(impl.StaysWithin(chain, from, to, bound)), impl.ErrRange)
					}
				}
			}
		}
	}
}
