package tests

import (
	"fmt"
	"math"
	"math/big"
	"math/rand"
	"slices"
	"testing"

	"loop.example/g01055/impl"
)

const maxJoined = 8

var moveArgument = argument{
	[]int64{-maxPlace, -1, 0, 1, maxPlace},
	[]int64{-maxPlace - 1, maxPlace + 1, 2 * maxPlace, 1 << 32, -1 << 32, math.MinInt64, math.MinInt64 + 1, math.MaxInt64 - 1, math.MaxInt64},
}

func triangleOfExample() []impl.Place { return chainOf(0, 0, 4, 0, 4, 3, 0, 0) }

func fromEnd(chain []impl.Place) []impl.Place {
	back := slices.Clone(chain)
	slices.Reverse(back)
	return back
}

// level goes to the right, by one at each step.
func level(x, y int64, many int) []impl.Place {
	chain := make([]impl.Place, many)
	for i := range chain {
		chain[i] = impl.Place{X: x + int64(i), Y: y}
	}
	return chain
}

// frame goes around a rectangle, to the left.
func frame(x, y, width, height int64) []impl.Place {
	return chainOf(x, y, x+width, y, x+width, y+height, x, y+height, x, y)
}

// diamond goes around a square that stands on a corner, to the left.
func diamond(x, y, size int64) []impl.Place {
	return chainOf(x, y-size, x+size, y, x, y+size, x-size, y, x, y-size)
}

// comb has five teeth, with level edges between them at three heights; it has MaxChain points.
func comb() []impl.Place {
	return chainOf(0, 0, 0, 9, 1, 9, 1, 3, 2, 3, 2, 6, 3, 6, 3, 3, 4, 3, 4, 9, 5, 9, 5, 3, 6, 3, 6, 6, 7, 6, 7, 3, 8, 3, 8, 9, 9, 9, 9, 6, 10, 3, 10, 0, 5, 0, 0, 0)
}

// pentagram goes around its middle twice.
func pentagram() []impl.Place { return chainOf(10, 0, 16, 19, 0, 7, 20, 7, 4, 19, 10, 0) }

// eight goes around one half to the right and around the other half to the left.
func eight() []impl.Place { return chainOf(0, 0, 10, 10, 10, 0, 0, 10, 0, 0) }

// closeTo returns the chain that goes on to where it begins.
func closeTo(chain []impl.Place) []impl.Place { return append(slices.Clone(chain), chain[0]) }

// closedChains has chains that go to the left, to the right, and some whose area is 0.
func closedChains() [][]impl.Place {
	list := [][]impl.Place{
		triangleOfExample(), fromEnd(triangleOfExample()), roundabout(1), fromEnd(roundabout(10)), roundabout(1000), comb(), fromEnd(comb()), pentagram(), eight(), fromEnd(eight()),
		frame(0, 0, maxPlace, maxPlace), fromEnd(frame(0, 0, maxPlace, maxPlace)), frame(3, 5, 1, 1), diamond(10, 10, 10), fromEnd(diamond(7, 9, 3)),
		// Twice around a square, and once to the left and once to the right.
		append(frame(2, 2, 6, 6), frame(2, 2, 6, 6)[1:]...), append(frame(2, 2, 6, 6), fromEnd(frame(2, 2, 6, 6))[1:]...),
		// Two squares that meet at a corner.
		append(frame(5, 5, 4, 4), frame(5, 5, -4, -4)[1:]...), append(frame(5, 5, 4, 4), fromEnd(frame(5, 5, -4, -4))[1:]...),
		make([]impl.Place, 4), make([]impl.Place, maxChain), chainOf(7, 7, 7, 7, 9, 9, 7, 7), chainOf(5, 1, 9, 1, 2, 1, 5, 1),
		thereAndBack(outlineOfExample()), thereAndBack(zigzag(4)), thereAndBack(acrossPaper(3)), thereAndBack(stair(12, 9, 4)), thereAndBack(chainOf(3, 1, 4, 1, 5, 9)),
		closeTo(zigzag(maxChain - 1)), closeTo(stair(maxChain-1, 10, 10)), fromEnd(closeTo(stair(11, 3, 1))),
	}
	r := rand.New(rand.NewSource(40))
	for _, greatest := range []int64{1, 2, 4, 9, 15, maxPlace} {
		for _, many := range []int{3, 4, 5, 8, 13, maxChain - 1} {
			list = append(list, closeTo(drawnChain(r, many, greatest)))
		}
	}
	return list
}

// openChains has chains of 2, 3 and more points; the last ones end where they begin, but have less than 4 points.
func openChains() [][]impl.Place {
	list := slices.DeleteFunc(allChains(), ruleClosed)
	return append(list, chainOf(5, 5, 5, 5), chainOf(5, 5, 9, 9, 5, 5), chainOf(0, 0, 0, 0, 0, 0), chainOf(0, 0, 4, 3, 0, 0), chainOf(maxPlace, 0, 0, maxPlace, maxPlace, 0))
}

func ruleClosed(chain []impl.Place) bool { return len(chain) >= 4 && chain[0] == chain[len(chain)-1] }

// ruleArea adds up what lies between the edges and a vertical line.
func ruleArea(chain []impl.Place) int64 {
	area := int64(0)
	for i, p := range chain[1:] {
		area += (chain[i].Y + p.Y) * (chain[i].X - p.X)
	}
	return area
}

// ruleWays has what each of the four ways of joining leads to, and nothing for those that are not possible.
func ruleWays(a, b []impl.Place) [4][]impl.Place {
	var ways [4][]impl.Place
	for i, parts := range [4][2][]impl.Place{{a, b}, {a, fromEnd(b)}, {b, a}, {fromEnd(b), a}} {
		if parts[0][len(parts[0])-1] == parts[1][0] {
			ways[i] = append(slices.Clone(parts[0]), parts[1][1:]...)
		}
	}
	return ways
}

func waysPossible(a, b []impl.Place) int {
	possible := 0
	for _, way := range ruleWays(a, b) {
		if way != nil {
			possible++
		}
	}
	return possible
}

func ruleJoin(a, b []impl.Place) ([]impl.Place, int64) {
	if ruleClosed(a) || ruleClosed(b) {
		return nil, impl.ErrState
	}
	for _, way := range ruleWays(a, b) {
		if len(way) > maxChain {
			return nil, impl.ErrFull
		}
		if way != nil {
			return way, impl.OK
		}
	}
	return nil, impl.ErrGap
}

// ruleJoinAll looks at all pairs anew after each of them that is joined.
func ruleJoinAll(list [][]impl.Place) [][]impl.Place {
	for i := range list {
		for k := i + 1; k < len(list); k++ {
			if joined, code := ruleJoin(list[i], list[k]); code == impl.OK {
				rest := slices.Delete(slices.Clone(list), k, k+1)
				rest[i] = joined
				return ruleJoinAll(rest)
			}
		}
	}
	return list
}

// endsOf has both ends of each open chain.
func endsOf(list [][]impl.Place) []impl.Place {
	var ends []impl.Place
	for _, chain := range list {
		if !ruleClosed(chain) {
			ends = append(ends, chain[0], chain[len(chain)-1])
		}
	}
	return ends
}

func ruleLoose(list [][]impl.Place) []impl.Place {
	ends := endsOf(list)
	var loose []impl.Place
	for i, end := range ends {
		if !slices.Contains(ends[:i], end) && !slices.Contains(ends[i+1:], end) {
			loose = append(loose, end)
		}
	}
	return loose
}

// ruleInside reckons with fractions where the edges meet the height of p.
func ruleInside(chain []impl.Place, p impl.Place) bool {
	inside := false
	for i, b := range chain[1:] {
		a := chain[i]
		if (a.Y > p.Y) == (b.Y > p.Y) {
			continue
		}
		x := new(big.Rat).Mul(big.NewRat(p.Y-a.Y, b.Y-a.Y), big.NewRat(b.X-a.X, 1))
		if x.Add(x, big.NewRat(a.X, 1)).Cmp(big.NewRat(p.X, 1)) > 0 {
			inside = !inside
		}
	}
	return inside
}

func ruleGreatest(list [][]impl.Place) result {
	best := result{0, impl.ErrNotFound}
	for i, chain := range slices.Backward(list) {
		if ruleClosed(chain) && (best.code != impl.OK || math.Abs(float64(ruleArea(chain))) >= math.Abs(float64(ruleArea(list[best.value])))) {
			best = result{int64(i), impl.OK}
		}
	}
	return best
}

// drawnChains returns chains of at most so many places that often meet.
func drawnChains(r *rand.Rand, many, longest int, greatest int64) [][]impl.Place {
	list := make([][]impl.Place, many)
	for i := range list {
		list[i] = drawnChain(r, 2+r.Intn(longest-1), greatest)
	}
	return list
}

// pieces cuts a chain into so many parts, turns some of them around and mixes them.
func pieces(r *rand.Rand, chain []impl.Place, many int) [][]impl.Place {
	cuts := append(r.Perm(len(chain) - 2)[:many-1], -1, len(chain)-2)
	slices.Sort(cuts)
	list := make([][]impl.Place, many)
	for i, place := range r.Perm(many) {
		list[place] = slices.Clone(chain[cuts[i]+1 : cuts[i+1]+2])
		if r.Intn(2) == 0 {
			slices.Reverse(list[place])
		}
	}
	return list
}

// chainLists has lists of up to MaxJoined chains.
func chainLists() [][][]impl.Place {
	lists := [][][]impl.Place{nil, {outlineOfExample()}, {triangleOfExample()}, closedChains()[:maxJoined], openChains()[:maxJoined], slices.Repeat([][]impl.Place{chainOf(5, 5, 5, 5)}, maxJoined)}
	r := rand.New(rand.NewSource(41))
	for many := 2; many <= maxJoined; many++ {
		for _, greatest := range []int64{1, 2, 3, 8, maxPlace} {
			for _, longest := range []int{2, 3, 5, 9, maxChain} {
				lists = append(lists, drawnChains(r, many, longest, greatest))
			}
		}
		for range 5 {
			lists = append(lists, pieces(r, closeTo(level(1, 1, maxChain-1)), many), pieces(r, level(9, 7, 9+r.Intn(16)), many), pieces(r, comb(), many), pieces(r, pentagram(), min(many, 5)))
		}
		mixed := append(drawnChains(r, many/2, 4, 2), closedChains()[:many-many/2]...)
		r.Shuffle(many, func(i, k int) { mixed[i], mixed[k] = mixed[k], mixed[i] })
		lists = append(lists, mixed)
	}
	return lists
}

func checkJoined(t *testing.T, a, b []impl.Place, want ...impl.Place) {
	t.Helper()
	joined, code := impl.JoinTwo(a, b)
	checkList(t, fmt.Sprint("JoinTwo ", a, b), joined, code, want...)
}

func checkNotJoined(t *testing.T, a, b []impl.Place, want int64) {
	t.Helper()
	checkRefused(t, fmt.Sprint("JoinTwo ", a, b), resultsOf(impl.JoinTwo(a, b)), want)
}

func checkJoinedAll(t *testing.T, list [][]impl.Place, want ...[]impl.Place) {
	t.Helper()
	joined, code := impl.JoinAll(list)
	what := fmt.Sprint("JoinAll ", list)
	same(t, what, code, impl.OK)
	if !slices.EqualFunc(joined, want, slices.Equal) {
		t.Errorf("%s: got %v, want %v", what, joined, want)
	}
}

func checkLoose(t *testing.T, list [][]impl.Place, want ...impl.Place) {
	t.Helper()
	ends, code := impl.LooseEnds(list)
	checkList(t, fmt.Sprint("LooseEnds ", list), ends, code, want...)
}

func checkClosed(t *testing.T, chain []impl.Place, want bool) {
	t.Helper()
	same(t, fmt.Sprint("IsClosed ", chain), codedOf(impl.IsClosed(chain)), coded[bool]{want, impl.OK})
}

func checkArea(t *testing.T, chain []impl.Place, want int64) {
	t.Helper()
	same(t, fmt.Sprint("TwiceArea ", chain), resultOf(impl.TwiceArea(chain)), result{want, impl.OK})
}

func checkTurned(t *testing.T, chain []impl.Place, want ...impl.Place) {
	t.Helper()
	turned, code := impl.LeftTurned(chain)
	checkList(t, fmt.Sprint("LeftTurned ", chain), turned, code, want...)
}

func checkInside(t *testing.T, chain []impl.Place, x, y int64, want bool) {
	t.Helper()
	same(t, fmt.Sprint("InsideOf ", chain, x, y), codedOf(impl.InsideOf(chain, impl.Place{X: x, Y: y})), coded[bool]{want, impl.OK})
}

func checkGreatest(t *testing.T, want int64, list ...[]impl.Place) {
	t.Helper()
	same(t, fmt.Sprint("GreatestOutline ", list), resultOf(impl.GreatestOutline(list)), result{want, impl.OK})
}

func checkMoved(t *testing.T, chain []impl.Place, x, y int64, want ...impl.Place) {
	t.Helper()
	moved, code := impl.MoveChain(chain, x, y)
	checkList(t, fmt.Sprint("MoveChain ", chain, x, y), moved, code, want...)
}

func TestLimitOfJoins(t *testing.T) {
	same(t, "MaxJoined", impl.MaxJoined, maxJoined)
}

func TestExampleOfJoins(t *testing.T) {
	checkClosed(t, triangleOfExample(), true)
	checkArea(t, triangleOfExample(), 12)
}

func TestIsClosed(t *testing.T) {
	// Equal points, of which the last one is the first one.
	for many := 2; many <= maxChain; many++ {
		checkClosed(t, make([]impl.Place, many), many >= 4)
		checkClosed(t, closeTo(zigzag(many-1)), many >= 4)
		checkClosed(t, zigzag(many), false)
	}
	checkClosed(t, chainOf(0, 0, 4, 0), false)
	checkClosed(t, chainOf(0, 0, 4, 0, 4, 3), false)
	checkClosed(t, chainOf(0, 0, 4, 0, 4, 3, 0, 1), false)
	checkClosed(t, chainOf(0, 0, 4, 0, 4, 3, 1, 0), false)
	checkClosed(t, chainOf(4, 3, 0, 0, 4, 0, 3, 4), false)
	// One that comes back to its first point before its end, and one that comes back to another point.
	checkClosed(t, chainOf(0, 0, 4, 0, 4, 3, 0, 0, 9, 9), false)
	checkClosed(t, chainOf(9, 9, 0, 0, 4, 0, 4, 3, 0, 0), false)
	for _, chain := range closedChains() {
		checkClosed(t, chain, true)
		checkClosed(t, fromEnd(chain), true)
		checkClosed(t, chain[:len(chain)-1], ruleClosed(chain[:len(chain)-1]))
	}
	for _, chain := range openChains() {
		checkClosed(t, chain, false)
	}
}

func TestTwiceArea(t *testing.T) {
	checkArea(t, fromEnd(triangleOfExample()), -12)
	checkArea(t, chainOf(4, 0, 4, 3, 0, 0, 4, 0), 12)
	checkArea(t, frame(0, 0, 1, 1), 2)
	checkArea(t, frame(100, 300, 7, 5), 70)
	checkArea(t, fromEnd(frame(100, 300, 7, 5)), -70)
	checkArea(t, diamond(50, 50, 3), 36)
	checkArea(t, frame(0, 0, maxPlace, maxPlace), 8000000)
	checkArea(t, fromEnd(frame(0, 0, maxPlace, maxPlace)), -8000000)
	checkArea(t, append(frame(2, 2, 6, 6), frame(2, 2, 6, 6)[1:]...), 144)
	checkArea(t, append(frame(2, 2, 6, 6), fromEnd(frame(2, 2, 6, 6))[1:]...), 0)
	checkArea(t, eight(), 0)
	checkArea(t, make([]impl.Place, 4), 0)
	checkArea(t, chainOf(5, 1, 9, 1, 2, 1, 5, 1), 0)
	checkArea(t, chainOf(1, 1, 2, 2, 9, 9, 1, 1), 0)
	// Each of the four edges alone does not lie at an axis.
	checkArea(t, chainOf(3, 1, 8, 2, 7, 6, 2, 5, 3, 1), 42)
	for _, chain := range append(openChains(), closedChains()...) {
		if len(chain) < maxChain/2 {
			checkArea(t, thereAndBack(closeTo(chain)), 0)
		}
	}
	for _, chain := range closedChains() {
		checkArea(t, chain, ruleArea(chain))
		checkArea(t, fromEnd(chain), -ruleArea(chain))
	}
	for _, chain := range openChains() {
		checkRefused(t, fmt.Sprint("TwiceArea ", chain), resultsOf(impl.TwiceArea(chain)), impl.ErrGap)
	}
}

func TestWaysOfJoining(t *testing.T) {
	// The last point of a is the first one of b, and so on.
	a := chainOf(1, 1, 2, 5, 9, 3)
	checkJoined(t, a, chainOf(9, 3, 4, 4, 7, 8), chainOf(1, 1, 2, 5, 9, 3, 4, 4, 7, 8)...)
	checkJoined(t, a, chainOf(7, 8, 4, 4, 9, 3), chainOf(1, 1, 2, 5, 9, 3, 4, 4, 7, 8)...)
	checkJoined(t, a, chainOf(7, 8, 4, 4, 1, 1), chainOf(7, 8, 4, 4, 1, 1, 2, 5, 9, 3)...)
	checkJoined(t, a, chainOf(1, 1, 4, 4, 7, 8), chainOf(7, 8, 4, 4, 1, 1, 2, 5, 9, 3)...)
	// Chains of two points.
	checkJoined(t, chainOf(0, 0, 4, 0), chainOf(4, 0, 4, 3), chainOf(0, 0, 4, 0, 4, 3)...)
	checkJoined(t, chainOf(0, 0, 4, 0), chainOf(4, 3, 4, 0), chainOf(0, 0, 4, 0, 4, 3)...)
	checkJoined(t, chainOf(0, 0, 4, 0), chainOf(4, 3, 0, 0), chainOf(4, 3, 0, 0, 4, 0)...)
	checkJoined(t, chainOf(0, 0, 4, 0), chainOf(0, 0, 4, 3), chainOf(4, 3, 0, 0, 4, 0)...)
	// Both ends meet: the first and the third way, and the second and the fourth one. What comes of it is closed.
	checkJoined(t, a, chainOf(9, 3, 4, 4, 1, 1), chainOf(1, 1, 2, 5, 9, 3, 4, 4, 1, 1)...)
	checkJoined(t, a, chainOf(1, 1, 4, 4, 9, 3), chainOf(1, 1, 2, 5, 9, 3, 4, 4, 1, 1)...)
	checkJoined(t, chainOf(0, 0, 4, 0), chainOf(4, 0, 4, 3, 0, 0), triangleOfExample()...)
	checkJoined(t, chainOf(0, 0, 4, 0), chainOf(0, 0, 4, 3, 4, 0), triangleOfExample()...)
	// Both ends meet, but three points are not closed.
	checkJoined(t, chainOf(0, 0, 4, 0), chainOf(4, 0, 0, 0), chainOf(0, 0, 4, 0, 0, 0)...)
	checkJoined(t, chainOf(0, 0, 4, 0), chainOf(0, 0, 4, 0), chainOf(0, 0, 4, 0, 0, 0)...)
	// The ends of b are one point: the first and the second way, and the third and the fourth one.
	checkJoined(t, a, chainOf(9, 3, 4, 4, 9, 3), chainOf(1, 1, 2, 5, 9, 3, 4, 4, 9, 3)...)
	checkJoined(t, a, chainOf(1, 1, 4, 4, 1, 1), chainOf(1, 1, 4, 4, 1, 1, 2, 5, 9, 3)...)
	// The ends of a are one point: the first and the fourth way, and the second and the third one.
	checkJoined(t, chainOf(5, 5, 6, 6, 5, 5), chainOf(5, 5, 1, 2, 3, 4), chainOf(5, 5, 6, 6, 5, 5, 1, 2, 3, 4)...)
	checkJoined(t, chainOf(5, 5, 6, 6, 5, 5), chainOf(3, 4, 1, 2, 5, 5), chainOf(5, 5, 6, 6, 5, 5, 1, 2, 3, 4)...)
	// All four ways.
	checkJoined(t, chainOf(5, 5, 6, 6, 5, 5), chainOf(5, 5, 7, 8, 5, 5), chainOf(5, 5, 6, 6, 5, 5, 7, 8, 5, 5)...)
	checkJoined(t, chainOf(5, 5, 5, 5), chainOf(5, 5, 7, 8, 5, 5), chainOf(5, 5, 5, 5, 7, 8, 5, 5)...)
	checkJoined(t, chainOf(5, 5, 5, 5), chainOf(5, 5, 5, 5), chainOf(5, 5, 5, 5, 5, 5)...)
}

// Each chain with two or three points out of four is joined to each other one. If three ways are possible, both ends of both chains are one
// point, so that the fourth one is possible as well.
func TestWaysOfJoiningFollowTheRule(t *testing.T) {
	points := chainOf(0, 0, 3, 1, 2, 4, 0, 3)
	var chains [][]impl.Place
	for _, p := range points {
		for _, q := range points {
			chains = append(chains, []impl.Place{p, q})
			for _, middle := range points {
				chains = append(chains, []impl.Place{p, middle, q})
			}
		}
	}
	many := map[int]int{}
	for _, a := range chains {
		for _, b := range chains {
			many[waysPossible(a, b)]++
			want, code := ruleJoin(a, b)
			if code != impl.OK {
				checkNotJoined(t, a, b, code)
			} else {
				checkJoined(t, a, b, want...)
			}
		}
	}
	for ways, areThere := range []bool{true, true, true, false, true} {
		same(t, fmt.Sprint(ways, " ways are possible"), many[ways] > 0, areThere)
	}
}

func TestChainsThatAreNotJoined(t *testing.T) {
	checkNotJoined(t, chainOf(0, 0, 4, 0), chainOf(5, 5, 6, 6), impl.ErrGap)
	checkNotJoined(t, chainOf(0, 0, 4, 0), chainOf(0, 4, 4, 4), impl.ErrGap)
	// They meet, but not at two ends.
	checkNotJoined(t, chainOf(0, 0, 4, 0, 4, 3), chainOf(4, 0, 9, 9), impl.ErrGap)
	checkNotJoined(t, chainOf(9, 9, 4, 0), chainOf(0, 0, 4, 0, 4, 3), impl.ErrGap)
	checkNotJoined(t, chainOf(1, 1, 4, 0, 2, 2), chainOf(3, 3, 4, 0, 5, 5), impl.ErrGap)
	// One of them, or both, are closed, and meet the other one or do not.
	for _, closed := range closedChains() {
		for _, open := range [][]impl.Place{{closed[0], {X: 777}}, {{X: 777}, closed[0]}, chainOf(1234, 5, 678, 90), level(3, 3, maxChain)} {
			checkNotJoined(t, closed, open, impl.ErrState)
			checkNotJoined(t, open, closed, impl.ErrState)
		}
		checkNotJoined(t, closed, closed, impl.ErrState)
		checkNotJoined(t, closed, triangleOfExample(), impl.ErrState)
	}
}

func TestJoinedChainsHaveTheirLimit(t *testing.T) {
	for first := 2; first <= maxChain; first++ {
		a := level(30, 7, first)
		end := a[first-1].X
		for _, second := range []int{2, 3, maxChain - first, maxChain + 1 - first, maxChain + 2 - first, maxChain} {
			if second < 2 || second > maxChain {
				continue
			}
			after, before := level(end, 7, second), level(31-int64(second), 7, second)
			for _, b := range [][]impl.Place{after, fromEnd(after)} {
				if first+second > maxChain+1 {
					checkNotJoined(t, a, b, impl.ErrFull)
				} else {
					checkJoined(t, a, b, level(30, 7, first+second-1)...)
				}
			}
			for _, b := range [][]impl.Place{before, fromEnd(before)} {
				if first+second > maxChain+1 {
					checkNotJoined(t, a, b, impl.ErrFull)
				} else {
					checkJoined(t, a, b, level(31-int64(second), 7, first+second-1)...)
				}
			}
		}
	}
	// What comes of both parts is closed, with MaxChain points and with one more.
	for cut := 1; cut < maxChain-1; cut++ {
		checkJoined(t, comb()[:cut+1], comb()[cut:], comb()...)
		checkJoined(t, comb()[:cut+1], fromEnd(comb()[cut:]), comb()...)
	}
	checkNotJoined(t, level(0, 0, 13), fromEnd(level(0, 0, 13)), impl.ErrFull)
	checkNotJoined(t, level(0, 0, 13), level(0, 0, 13), impl.ErrFull)
	// Whether chains are open, and whether they meet, is asked before.
	checkNotJoined(t, closeTo(level(0, 0, 23)), level(0, 0, maxChain), impl.ErrState)
	checkNotJoined(t, level(0, 0, maxChain), level(0, 1, maxChain), impl.ErrGap)
}

func TestJoinAll(t *testing.T) {
	checkJoinedAll(t, nil)
	checkJoinedAll(t, [][]impl.Place{})
	checkJoinedAll(t, [][]impl.Place{outlineOfExample()}, outlineOfExample())
	checkJoinedAll(t, [][]impl.Place{triangleOfExample()}, triangleOfExample())
	checkJoinedAll(t, [][]impl.Place{chainOf(5, 5, 5, 5)}, chainOf(5, 5, 5, 5))
	// In the place of the first one; the others keep their order.
	checkJoinedAll(t, [][]impl.Place{chainOf(50, 0, 51, 0), chainOf(0, 0, 4, 0), chainOf(60, 0, 61, 0), chainOf(4, 0, 4, 3), chainOf(70, 0, 71, 0)},
		chainOf(50, 0, 51, 0), chainOf(0, 0, 4, 0, 4, 3), chainOf(60, 0, 61, 0), chainOf(70, 0, 71, 0))
	// The first one keeps its direction.
	checkJoinedAll(t, [][]impl.Place{chainOf(4, 0, 0, 0), chainOf(4, 0, 4, 3)}, chainOf(4, 3, 4, 0, 0, 0))
	checkJoinedAll(t, [][]impl.Place{chainOf(4, 0, 4, 3), chainOf(4, 0, 0, 0)}, chainOf(0, 0, 4, 0, 4, 3))
	// The first one meets all others, and the second one of the list comes first, at whichever end it is.
	checkJoinedAll(t, [][]impl.Place{chainOf(1, 1, 2, 2), chainOf(3, 3, 1, 1), chainOf(2, 2, 4, 4), chainOf(1, 1, 9, 9)}, chainOf(3, 3, 1, 1, 2, 2, 4, 4), chainOf(1, 1, 9, 9))
	checkJoinedAll(t, [][]impl.Place{chainOf(1, 1, 2, 2), chainOf(1, 1, 9, 9), chainOf(3, 3, 1, 1)}, chainOf(9, 9, 1, 1, 2, 2), chainOf(3, 3, 1, 1))
	// All of them, in some orders.
	for _, order := range [][]int64{{0, 1, 2, 3, 4, 5, 6, 7}, {7, 6, 5, 4, 3, 2, 1, 0}, {0, 2, 4, 6, 1, 3, 5, 7}, {0, 7, 1, 6, 2, 5, 3, 4}, {3, 0, 7, 2, 5, 1, 6, 4}} {
		var list [][]impl.Place
		for _, k := range order {
			list = append(list, level(10+2*k, 3, 3))
		}
		checkJoinedAll(t, list, level(10, 3, 17))
	}
}

func TestJoinedOnesAreJoinedAgain(t *testing.T) {
	// With an earlier one that did not meet the first one before.
	checkJoinedAll(t, [][]impl.Place{chainOf(0, 0, 1, 1), chainOf(2, 2, 3, 3), chainOf(1, 1, 2, 2)}, chainOf(0, 0, 1, 1, 2, 2, 3, 3))
	checkJoinedAll(t, [][]impl.Place{chainOf(9, 9, 8, 8), chainOf(0, 0, 1, 1), chainOf(3, 3, 4, 4), chainOf(2, 2, 3, 3), chainOf(1, 1, 2, 2)}, chainOf(9, 9, 8, 8), chainOf(0, 0, 1, 1, 2, 2, 3, 3, 4, 4))
	// What three edges come to is closed, and what meets it is left.
	checkJoinedAll(t, [][]impl.Place{chainOf(0, 0, 4, 0), chainOf(4, 3, 0, 0), chainOf(4, 0, 4, 3), chainOf(4, 0, 9, 9)}, chainOf(4, 3, 0, 0, 4, 0, 4, 3), chainOf(4, 0, 9, 9))
	checkJoinedAll(t, [][]impl.Place{chainOf(0, 0, 4, 0), chainOf(4, 0, 4, 3), chainOf(4, 3, 0, 0)}, triangleOfExample())
	checkJoinedAll(t, [][]impl.Place{chainOf(0, 0, 4, 0), chainOf(9, 9, 0, 0), chainOf(0, 0, 4, 3, 4, 0)}, chainOf(9, 9, 0, 0, 4, 0, 4, 3, 0, 0))
	// There and back are three points, which are joined again; four equal points are closed.
	checkJoinedAll(t, [][]impl.Place{chainOf(1, 1, 2, 2), chainOf(2, 2, 1, 1), chainOf(1, 1, 3, 3)}, chainOf(1, 1, 2, 2, 1, 1, 3, 3))
	checkJoinedAll(t, [][]impl.Place{chainOf(1, 1, 2, 2), chainOf(2, 2, 1, 1), chainOf(3, 3, 1, 1)}, chainOf(1, 1, 2, 2, 1, 1, 3, 3))
	same4, same3 := chainOf(5, 5, 5, 5, 5, 5, 5, 5), chainOf(5, 5, 5, 5, 5, 5)
	for many, want := range [][][]impl.Place{{}, {same4[:2]}, {same3}, {same4}, {same4, same4[:2]}, {same4, same3}, {same4, same4}, {same4, same4, same4[:2]}, {same4, same4, same3}} {
		checkJoinedAll(t, slices.Repeat([][]impl.Place{same4[:2]}, many), want...)
	}
}

func TestLongChainsAreLeft(t *testing.T) {
	// The first two are too long, and the first one and the third one are not.
	checkJoinedAll(t, [][]impl.Place{level(0, 0, 13), level(12, 0, 13), level(12, 0, 12)}, level(0, 0, 24), level(12, 0, 13))
	checkJoinedAll(t, [][]impl.Place{level(20, 0, 13), level(8, 0, 13), chainOf(32, 0, 40, 9)}, append(level(20, 0, 13), impl.Place{X: 40, Y: 9}), level(8, 0, 13))
	// The first two and the first one and the third one are too long, and the second one and the third one are not.
	checkJoinedAll(t, [][]impl.Place{level(0, 0, maxChain), chainOf(23, 0, 30, 1), chainOf(23, 0, 30, 2)}, level(0, 0, maxChain), chainOf(30, 2, 23, 0, 30, 1))
	checkJoinedAll(t, [][]impl.Place{level(0, 0, 13), level(12, 0, 13), level(24, 0, 12)}, level(0, 0, 13), level(12, 0, 24))
	// One that is joined becomes too long for the next one.
	checkJoinedAll(t, [][]impl.Place{level(0, 0, 12), level(11, 0, 12), level(22, 0, 3), level(24, 0, 3)}, level(0, 0, 23), level(22, 0, 5))
	checkJoinedAll(t, [][]impl.Place{level(0, 0, 12), level(11, 0, 12), level(22, 0, 2), level(23, 0, 3)}, level(0, 0, 24), level(23, 0, 3))
	checkJoinedAll(t, [][]impl.Place{level(0, 0, maxChain), level(0, 0, maxChain)}, level(0, 0, maxChain), level(0, 0, maxChain))
}

func TestClosedChainsAreLeft(t *testing.T) {
	ring := triangleOfExample()
	checkJoinedAll(t, [][]impl.Place{ring, chainOf(0, 0, 9, 9), ring, chainOf(9, 9, 8, 7), fromEnd(ring)}, ring, chainOf(0, 0, 9, 9, 8, 7), ring, fromEnd(ring))
	checkJoinedAll(t, [][]impl.Place{chainOf(7, 8, 0, 0), ring, chainOf(0, 0, 9, 9)}, chainOf(7, 8, 0, 0, 9, 9), ring)
	checkJoinedAll(t, [][]impl.Place{chainOf(7, 8, 0, 0), ring}, chainOf(7, 8, 0, 0), ring)
	checkJoinedAll(t, [][]impl.Place{ring, ring}, ring, ring)
	checkJoinedAll(t, closedChains()[:maxJoined], closedChains()[:maxJoined]...)
}

func TestJoinAllFollowsTheRule(t *testing.T) {
	for _, list := range chainLists() {
		checkJoinedAll(t, list, ruleJoinAll(list)...)
	}
}

func TestLooseEnds(t *testing.T) {
	checkLoose(t, nil)
	checkLoose(t, [][]impl.Place{{{X: 1}, {Y: 2}}}, chainOf(1, 0, 0, 2)...)
	checkLoose(t, [][]impl.Place{outlineOfExample()}, chainOf(0, 0, 30, 9)...)
	// Ends that are there once, twice and three times.
	checkLoose(t, [][]impl.Place{chainOf(1, 1, 2, 2), chainOf(2, 2, 3, 3)}, chainOf(1, 1, 3, 3)...)
	checkLoose(t, [][]impl.Place{chainOf(1, 1, 2, 2), chainOf(3, 3, 2, 2), chainOf(2, 2, 4, 4)}, chainOf(1, 1, 3, 3, 4, 4)...)
	checkLoose(t, [][]impl.Place{chainOf(2, 2, 1, 1), chainOf(2, 2, 3, 3), chainOf(2, 2, 4, 4), chainOf(5, 5, 2, 2)}, chainOf(1, 1, 3, 3, 4, 4, 5, 5)...)
	checkLoose(t, [][]impl.Place{chainOf(1, 1, 2, 2), chainOf(2, 2, 1, 1)})
	checkLoose(t, [][]impl.Place{chainOf(1, 1, 2, 2), chainOf(1, 1, 2, 2)})
	checkLoose(t, [][]impl.Place{chainOf(0, 0, 4, 0), chainOf(4, 3, 0, 0), chainOf(4, 0, 4, 3)})
	// An order of their own: the first point of a chain, then its last one.
	checkLoose(t, [][]impl.Place{chainOf(9, 9, 8, 8), chainOf(7, 7, 1, 1), chainOf(3, 3, 2, 2)}, chainOf(9, 9, 8, 8, 7, 7, 1, 1, 3, 3, 2, 2)...)
	// Open chains whose own two ends are the same point.
	checkLoose(t, [][]impl.Place{chainOf(5, 5, 5, 5)})
	checkLoose(t, [][]impl.Place{chainOf(5, 5, 6, 6, 5, 5), chainOf(6, 6, 7, 7)}, chainOf(6, 6, 7, 7)...)
	checkLoose(t, [][]impl.Place{chainOf(5, 5, 6, 6, 5, 5), chainOf(5, 5, 7, 7)}, chainOf(7, 7)...)
	// Points that are not ends, and the ends of closed chains.
	checkLoose(t, [][]impl.Place{chainOf(1, 1, 2, 2, 3, 3), chainOf(2, 2, 4, 4)}, chainOf(1, 1, 3, 3, 2, 2, 4, 4)...)
	checkLoose(t, [][]impl.Place{triangleOfExample()})
	checkLoose(t, [][]impl.Place{triangleOfExample(), chainOf(0, 0, 4, 0), triangleOfExample()}, chainOf(0, 0, 4, 0)...)
	checkLoose(t, [][]impl.Place{chainOf(0, 5, 5, 0), chainOf(5, 5, 0, 0)}, chainOf(0, 5, 5, 0, 5, 5, 0, 0)...)
	for _, list := range chainLists() {
		checkLoose(t, list, ruleLoose(list)...)
	}
}

func TestLeftTurned(t *testing.T) {
	checkTurned(t, triangleOfExample(), triangleOfExample()...)
	checkTurned(t, fromEnd(triangleOfExample()), triangleOfExample()...)
	// Chains whose area is 0 stay as they are.
	checkTurned(t, eight(), eight()...)
	checkTurned(t, fromEnd(eight()), fromEnd(eight())...)
	checkTurned(t, chainOf(1, 1, 9, 9, 3, 3, 1, 1), chainOf(1, 1, 9, 9, 3, 3, 1, 1)...)
	checkTurned(t, chainOf(1, 1, 3, 3, 9, 9, 1, 1), chainOf(1, 1, 3, 3, 9, 9, 1, 1)...)
	checkTurned(t, make([]impl.Place, 4), make([]impl.Place, 4)...)
	for _, chain := range closedChains() {
		if ruleArea(chain) >= 0 {
			checkTurned(t, chain, chain...)
		} else {
			checkTurned(t, chain, fromEnd(chain)...)
		}
		turned, _ := impl.LeftTurned(chain)
		checkTurned(t, turned, turned...)
		checkArea(t, turned, max(ruleArea(chain), -ruleArea(chain)))
	}
	for _, chain := range openChains() {
		checkRefused(t, fmt.Sprint("LeftTurned ", chain), resultsOf(impl.LeftTurned(chain)), impl.ErrGap)
	}
}

func TestInsideOf(t *testing.T) {
	for _, square := range [][]impl.Place{frame(10, 10, 20, 20), fromEnd(frame(10, 10, 20, 20))} {
		for _, p := range chainOf(20, 20, 11, 11, 29, 29, 11, 29, 29, 11) {
			checkInside(t, square, p.X, p.Y, true)
		}
		for _, p := range chainOf(9, 20, 31, 20, 20, 9, 20, 31, 0, 0, 9, 10, 9, 30, 31, 10, 31, 30, maxPlace, 20, 0, 20, 20, maxPlace, maxPlace, maxPlace) {
			checkInside(t, square, p.X, p.Y, false)
		}
		// On the edges to the lesser X and to the lesser Y, with the corner between them; on the other ones.
		for _, p := range chainOf(10, 10, 10, 20, 10, 29, 20, 10, 29, 10) {
			checkInside(t, square, p.X, p.Y, true)
		}
		for _, p := range chainOf(30, 10, 30, 20, 30, 30, 20, 30, 10, 30, 29, 30) {
			checkInside(t, square, p.X, p.Y, false)
		}
	}
	// At the height of corners, beside and between them.
	for x, want := range map[int64]bool{0: false, 9: false, 10: true, 11: true, 29: true, 30: false, 31: false} {
		checkInside(t, diamond(20, 20, 10), x, 20, want)
	}
	for y, want := range map[int64]bool{9: false, 10: false, 11: true, 20: true, 29: true, 30: false, 31: false} {
		checkInside(t, diamond(20, 20, 10), 20, y, want)
	}
	// On slanting edges: those to the lesser X belong to it.
	checkInside(t, diamond(20, 20, 10), 15, 15, true)
	checkInside(t, diamond(20, 20, 10), 15, 25, true)
	checkInside(t, diamond(20, 20, 10), 25, 15, false)
	checkInside(t, diamond(20, 20, 10), 25, 25, false)
	checkInside(t, triangleOfExample(), 3, 1, true)
	checkInside(t, triangleOfExample(), 1, 2, false)
	// Around the middle twice.
	checkInside(t, pentagram(), 10, 10, false)
	checkInside(t, pentagram(), 10, 4, true)
	checkInside(t, pentagram(), 4, 8, true)
	checkInside(t, eight(), 2, 5, true)
	checkInside(t, eight(), 8, 5, true)
	checkInside(t, eight(), 5, 2, false)
	checkInside(t, eight(), 5, 8, false)
	// The height of level edges of the comb, before, on and behind them.
	for x, want := range map[int64]bool{0: true, 1: false, 2: true, 3: false, 4: true, 5: false, 6: true, 7: false, 8: true, 9: true, 10: false} {
		checkInside(t, comb(), x, 3, want)
		checkInside(t, comb(), x, 5, want)
	}
}

// On a small paper, each point is looked at, and some around it.
func TestInsideOfFollowsTheRule(t *testing.T) {
	for _, chain := range closedChains() {
		var numbers []int64
		for _, p := range chain {
			for d := int64(-1); d <= 1; d++ {
				numbers = append(numbers, p.X+d, p.Y+d)
			}
		}
		numbers = append(numbers, 0, 1, 5, 12, 700, maxPlace-1, maxPlace)
		slices.Sort(numbers)
		numbers = slices.DeleteFunc(slices.Compact(numbers), func(n int64) bool { return n < 0 || n > maxPlace })
		for _, x := range numbers {
			for _, y := range numbers {
				want := ruleInside(chain, impl.Place{X: x, Y: y})
				checkInside(t, chain, x, y, want)
				checkInside(t, fromEnd(chain), x, y, want)
			}
		}
	}
}

// Of the parts of a paper that is cut along straight lines, just one has each point, also those on the cuts.
func TestEachPointIsInsideOneOfTheParts(t *testing.T) {
	parts := [][]impl.Place{
		chainOf(0, 0, 12, 0, 5, 4, 0, 0), chainOf(12, 0, 12, 12, 5, 4, 12, 0), fromEnd(chainOf(12, 12, 7, 12, 5, 4, 12, 12)), chainOf(7, 12, 0, 12, 5, 4, 7, 12),
		chainOf(0, 12, 0, 6, 5, 4, 0, 12), fromEnd(chainOf(0, 6, 0, 0, 5, 4, 0, 6)),
	}
	for x := range int64(15) {
		for y := range int64(15) {
			inside := 0
			for _, part := range parts {
				if is, _ := impl.InsideOf(part, impl.Place{X: x, Y: y}); is {
					inside++
				}
			}
			want := 0
			if x < 12 && y < 12 {
				want = 1
			}
			same(t, fmt.Sprint("parts with the point ", x, y), inside, want)
		}
	}
}

// At the greatest X there is no edge at a greater one, and at the greatest Y no end has a greater one.
func TestInsideOfAtTheEdgesOfThePaper(t *testing.T) {
	for _, paper := range [][]impl.Place{frame(0, 0, maxPlace, maxPlace), fromEnd(frame(0, 0, maxPlace, maxPlace))} {
		for _, n := range []int64{0, 1, 1000, maxPlace - 1} {
			checkInside(t, paper, 0, n, true)
			checkInside(t, paper, n, 0, true)
			checkInside(t, paper, maxPlace, n, false)
			checkInside(t, paper, n, maxPlace, false)
			checkInside(t, paper, maxPlace-1, n, true)
			checkInside(t, paper, n, maxPlace-1, true)
		}
		checkInside(t, paper, maxPlace, maxPlace, false)
	}
	// Slanting edges across the whole paper, and points just beside them.
	checkInside(t, chainOf(0, 0, maxPlace, maxPlace-1, 0, maxPlace-1, 0, 0), 1000, 999, false)
	checkInside(t, chainOf(0, 0, maxPlace, maxPlace-1, 0, maxPlace-1, 0, 0), 1000, 1000, true)
	checkInside(t, chainOf(0, 0, maxPlace, maxPlace, 0, maxPlace, 0, 0), 1000, 1000, false)
	checkInside(t, chainOf(0, 0, maxPlace, 0, maxPlace, maxPlace, 0, 0), 1000, 1000, true)
}

func TestGreatestOutline(t *testing.T) {
	small, big := frame(0, 0, 2, 3), frame(5, 5, 7, 4)
	line := chainOf(0, 0, maxPlace, maxPlace)
	checkGreatest(t, 0, small)
	checkGreatest(t, 1, small, big)
	checkGreatest(t, 0, big, small)
	checkGreatest(t, 2, line, small, big, line)
	checkGreatest(t, 3, line, line, line, small)
	// An open chain around the whole paper is left out.
	checkGreatest(t, 1, frame(0, 0, maxPlace, maxPlace)[:4], small)
	// Equal areas, and areas that differ only in their sign.
	checkGreatest(t, 0, small, small, small)
	checkGreatest(t, 1, line, small, frame(9, 9, 3, 2), frame(1, 1, 6, 1))
	checkGreatest(t, 0, small, fromEnd(small))
	checkGreatest(t, 0, fromEnd(small), small)
	checkGreatest(t, 1, small, fromEnd(big), big)
	checkGreatest(t, 1, small, big, fromEnd(big))
	checkGreatest(t, 1, fromEnd(small), fromEnd(big))
	checkGreatest(t, 0, fromEnd(big), small)
	// Areas of 0.
	checkGreatest(t, 0, eight())
	checkGreatest(t, 1, line, make([]impl.Place, 4), eight())
	checkGreatest(t, 2, eight(), make([]impl.Place, 4), fromEnd(frame(3, 3, 1, 1)))
	checkGreatest(t, 7, append(slices.Repeat([][]impl.Place{small}, 7), big)...)
	for _, list := range append(chainLists(), nil, openChains()[:maxJoined], openChains()[:1]) {
		want := ruleGreatest(list)
		if want.code == impl.OK {
			checkGreatest(t, want.value, list...)
		} else {
			checkRefused(t, fmt.Sprint("GreatestOutline ", list), resultsOf(impl.GreatestOutline(list)), want.code)
		}
	}
	r := rand.New(rand.NewSource(42))
	for range 200 {
		list := closedChains()
		r.Shuffle(len(list), func(i, k int) { list[i], list[k] = list[k], list[i] })
		list = list[:1+r.Intn(maxJoined)]
		checkGreatest(t, ruleGreatest(list).value, list...)
	}
}

func TestMoveChain(t *testing.T) {
	checkMoved(t, chainOf(3, 4, 5, 7), 0, 0, chainOf(3, 4, 5, 7)...)
	checkMoved(t, chainOf(3, 4, 5, 7), 1, 2, chainOf(4, 6, 6, 9)...)
	checkMoved(t, chainOf(3, 4, 5, 7), 20, -3, chainOf(23, 1, 25, 4)...)
	checkMoved(t, triangleOfExample(), 7, 0, chainOf(7, 0, 11, 0, 11, 3, 7, 0)...)
	checkMoved(t, triangleOfExample(), 0, 7, chainOf(0, 7, 4, 7, 4, 10, 0, 7)...)
	checkMoved(t, chainOf(0, 0, 0, 0), maxPlace, maxPlace, chainOf(maxPlace, maxPlace, maxPlace, maxPlace)...)
	checkMoved(t, chainOf(maxPlace, maxPlace, maxPlace, maxPlace), -maxPlace, -maxPlace, chainOf(0, 0, 0, 0)...)
	checkMoved(t, chainOf(0, maxPlace, 0, maxPlace), maxPlace, -maxPlace, chainOf(maxPlace, 0, maxPlace, 0)...)
	r := rand.New(rand.NewSource(43))
	for _, chain := range allChains() {
		least, greatest := chain[0], chain[0]
		for _, p := range chain {
			least = impl.Place{X: min(least.X, p.X), Y: min(least.Y, p.Y)}
			greatest = impl.Place{X: max(greatest.X, p.X), Y: max(greatest.Y, p.Y)}
		}
		// To just 0 and MaxPlace, and one beyond each, and somewhere between them.
		xs := []int64{-least.X, maxPlace - greatest.X, r.Int63n(maxPlace-greatest.X+least.X+1) - least.X}
		ys := []int64{-least.Y, maxPlace - greatest.Y, r.Int63n(maxPlace-greatest.Y+least.Y+1) - least.Y}
		for _, x := range xs {
			for _, y := range ys {
				want := slices.Clone(chain)
				for i := range want {
					want[i].X, want[i].Y = want[i].X+x, want[i].Y+y
				}
				checkMoved(t, chain, x, y, want...)
			}
		}
		for _, x := range []int64{-least.X - 1, maxPlace - greatest.X + 1} {
			for _, y := range ys {
				if x >= -maxPlace && x <= maxPlace {
					checkRefused(t, fmt.Sprint("MoveChain ", chain, x, y), resultsOf(impl.MoveChain(chain, x, y)), impl.ErrFull)
				}
			}
		}
		for _, y := range []int64{-least.Y - 1, maxPlace - greatest.Y + 1} {
			for _, x := range xs {
				if y >= -maxPlace && y <= maxPlace {
					checkRefused(t, fmt.Sprint("MoveChain ", chain, x, y), resultsOf(impl.MoveChain(chain, x, y)), impl.ErrFull)
				}
			}
		}
	}
}

func TestErrorsOfMoveChain(t *testing.T) {
	for _, chain := range [][]impl.Place{outlineOfExample(), triangleOfExample(), chainOf(0, 0, 0, 0), acrossPaper(maxChain), zigzag(maxChain)} {
		for _, values := range wrongValues(moveArgument, moveArgument) {
			checkRefused(t, fmt.Sprint("MoveChain ", chain, values), resultsOf(impl.MoveChain(chain, values[0], values[1])), impl.ErrRange)
		}
	}
	// The whole paper cannot be moved at all.
	for _, values := range allValues([]argument{moveArgument, moveArgument}) {
		results := resultsOf(impl.MoveChain(acrossPaper(2), values[0], values[1]))
		what := fmt.Sprint("MoveChain ", acrossPaper(2), values)
		switch code := results[1].(int64); {
		case slices.Contains(moveArgument.wrong, values[0]) || slices.Contains(moveArgument.wrong, values[1]):
			checkRefused(t, what, results, impl.ErrRange)
		case values[0] == 0 && values[1] == 0:
			same(t, what, code, impl.OK)
		default:
			checkRefused(t, what, results, impl.ErrFull)
		}
	}
}

// wrongPlaces are no points on paper.
func wrongPlaces() []impl.Place {
	var list []impl.Place
	for _, n := range wrongPlaceNumbers() {
		list = append(list, impl.Place{X: n}, impl.Place{Y: n}, impl.Place{X: n, Y: 2}, impl.Place{X: 2, Y: n}, impl.Place{X: n, Y: n}, impl.Place{X: maxPlace, Y: n})
	}
	return append(list, impl.Place{X: math.MinInt64, Y: math.MaxInt64}, impl.Place{X: math.MaxInt64, Y: math.MinInt64})
}

func TestErrorsOfInsideOf(t *testing.T) {
	for _, p := range wrongPlaces() {
		for _, chain := range closedChains() {
			checkRefused(t, fmt.Sprint("InsideOf ", chain, p), resultsOf(impl.InsideOf(chain, p)), impl.ErrRange)
		}
	}
	// An open chain is refused before the point is looked at.
	for _, p := range append(wrongPlaces(), chainOf(0, 0, 2, 2, maxPlace, maxPlace)...) {
		for _, chain := range openChains() {
			checkRefused(t, fmt.Sprint("InsideOf ", chain, p), resultsOf(impl.InsideOf(chain, p)), impl.ErrGap)
		}
	}
}

// callsOfJoins has calls of all functions that refuse a chain that is not valid; some of their other arguments are wrong.
func callsOfJoins() []chainCall {
	calls := []chainCall{
		{"IsClosed", func(chain []impl.Place) []any { return resultsOf(impl.IsClosed(chain)) }},
		{"TwiceArea", func(chain []impl.Place) []any { return resultsOf(impl.TwiceArea(chain)) }},
		{"LeftTurned", func(chain []impl.Place) []any { return resultsOf(impl.LeftTurned(chain)) }},
	}
	for i, other := range append(closedChains()[:3], chainOf(0, 0, 5, 5), chainOf(1, 0, 9, 9), level(0, 0, maxChain), nil, chainOf(-1, 0, 5, 5)) {
		calls = append(calls,
			chainCall{fmt.Sprint("JoinTwo with ", i), func(chain []impl.Place) []any { return resultsOf(impl.JoinTwo(chain, other)) }},
			chainCall{fmt.Sprint("JoinTwo from ", i), func(chain []impl.Place) []any { return resultsOf(impl.JoinTwo(other, chain)) }})
	}
	calls = append(calls, chainCall{"JoinTwo with itself", func(chain []impl.Place) []any { return resultsOf(impl.JoinTwo(chain, chain)) }})
	for _, p := range append(wrongPlaces()[:12], chainOf(0, 0, 2, 2, maxPlace, maxPlace)...) {
		calls = append(calls, chainCall{fmt.Sprint("InsideOf ", p), func(chain []impl.Place) []any { return resultsOf(impl.InsideOf(chain, p)) }})
	}
	for _, values := range [][2]int64{{0, 0}, {1, 0}, {maxPlace, -maxPlace}, {maxPlace + 1, 0}, {0, -maxPlace - 1}, {math.MinInt64, math.MaxInt64}, {math.MaxInt64, math.MinInt64}} {
		calls = append(calls, chainCall{fmt.Sprint("MoveChain ", values), func(chain []impl.Place) []any { return resultsOf(impl.MoveChain(chain, values[0], values[1])) }})
	}
	return calls
}

// A chainsCall is a call of a function with a list of chains; it returns all results, the code as the last one.
type chainsCall struct {
	name string
	call func(list [][]impl.Place) []any
}

func callsOfChainLists() []chainsCall {
	return []chainsCall{
		{"JoinAll", func(list [][]impl.Place) []any { return resultsOf(impl.JoinAll(list)) }},
		{"LooseEnds", func(list [][]impl.Place) []any { return resultsOf(impl.LooseEnds(list)) }},
		{"GreatestOutline", func(list [][]impl.Place) []any { return resultsOf(impl.GreatestOutline(list)) }},
	}
}

func TestWrongChainsAreNotJoined(t *testing.T) {
	for _, x := range callsOfJoins() {
		for _, chain := range wrongChains() {
			checkRefused(t, x.name, x.call(chain), impl.ErrInvalid)
		}
	}
}

// The wrong chain is the first one, one in the middle, and the last one; the list is short enough, or too long.
func TestListsWithWrongChainsAreRefused(t *testing.T) {
	right := slices.Concat(openChains()[:4], closedChains()[:4], openChains()[4:8])
	for _, x := range callsOfChainLists() {
		for i, wrong := range wrongChains() {
			for _, many := range []int{0, 1, 2, maxJoined - 1, maxJoined, maxJoined + 1, len(right)} {
				for _, at := range []int{0, many / 2, many} {
					list := slices.Insert(slices.Clone(right[:many]), at, wrong)
					checkRefused(t, fmt.Sprint(x.name, " of ", many, " with the wrong chain ", i, " at ", at), x.call(list), impl.ErrInvalid)
				}
			}
		}
		checkRefused(t, x.name+" of no places", x.call(make([][]impl.Place, 100000)), impl.ErrInvalid)
		checkRefused(t, x.name+" of many and one", x.call(append(slices.Repeat([][]impl.Place{triangleOfExample()}, 100000), chainOf(0, 0))), impl.ErrInvalid)
	}
}

func TestListsHaveTheirLimit(t *testing.T) {
	for _, x := range callsOfChainLists() {
		for _, chain := range [][]impl.Place{triangleOfExample(), outlineOfExample(), chainOf(5, 5, 5, 5), level(0, 0, maxChain)} {
			for _, many := range []int{maxJoined + 1, maxJoined + 2, 2 * maxJoined, 100000} {
				checkRefused(t, fmt.Sprint(x.name, " of ", many), x.call(slices.Repeat([][]impl.Place{chain}, many)), impl.ErrRange)
			}
		}
		results := x.call(slices.Repeat([][]impl.Place{triangleOfExample()}, maxJoined))
		same(t, x.name+" of MaxJoined", results[len(results)-1].(int64), impl.OK)
	}
}
