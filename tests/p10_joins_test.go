package tests

import (
	"fmt"
	"math/rand"
	"slices"
	"testing"

	"loop.example/g01055/impl"
)

// isPart reports whether the points of a chain are there one after the other.
func isPart(chain, of []impl.Place) bool {
	for i := range len(of) - len(chain) + 1 {
		if slices.Equal(of[i:i+len(chain)], chain) {
			return true
		}
	}
	return false
}

// edgesIn counts how often each edge is there in some chains, whichever way one goes along it.
func edgesIn(list [][]impl.Place) map[[2]impl.Place]int {
	edges := map[[2]impl.Place]int{}
	for _, chain := range list {
		for i, b := range chain[1:] {
			a := chain[i]
			if b.X < a.X || b.X == a.X && b.Y < a.Y {
				a, b = b, a
			}
			edges[[2]impl.Place{a, b}]++
		}
	}
	return edges
}

// oddEnds has the points at which an odd number of open chains end.
func oddEnds(list [][]impl.Place) map[impl.Place]bool {
	odd := map[impl.Place]bool{}
	for _, end := range endsOf(list) {
		if odd[end] {
			delete(odd, end)
		} else {
			odd[end] = true
		}
	}
	return odd
}

func sameCounts[K, V comparable](a, b map[K]V) bool {
	for key, n := range a {
		if b[key] != n {
			return false
		}
	}
	return len(a) == len(b)
}

func joinedAll(t *testing.T, list [][]impl.Place) [][]impl.Place {
	t.Helper()
	joined, code := impl.JoinAll(list)
	same(t, fmt.Sprint("JoinAll ", list), code, impl.OK)
	return joined
}

// listsForJoins has the lists of chapter 10, and others with short chains that meet at few points.
func listsForJoins() [][][]impl.Place {
	lists := chainLists()
	r := rand.New(rand.NewSource(44))
	for range 300 {
		lists = append(lists, drawnChains(r, 2+r.Intn(maxJoined-1), 2+r.Intn(5), 1+r.Int63n(3)))
	}
	return lists
}

// Of two chains that are joined, the first one goes on as it did, and the second one may be turned.
func TestTwoJoinedChainsKeepTheirPoints(t *testing.T) {
	joinedPairs := 0
	for _, list := range listsForJoins() {
		for _, a := range list {
			for _, b := range list {
				joined, code := impl.JoinTwo(a, b)
				if code != impl.OK {
					continue
				}
				joinedPairs++
				what := fmt.Sprint("JoinTwo ", a, b)
				same(t, what+" is a chain", impl.ValidChain(joined), true)
				same(t, what+": many", len(joined), len(a)+len(b)-1)
				same(t, what+" keeps the first one", isPart(a, joined), true)
				same(t, what+" keeps the second one", isPart(b, joined) || isPart(fromEnd(b), joined), true)
				same(t, what+" keeps the edges", sameCounts(edgesIn([][]impl.Place{joined}), edgesIn([][]impl.Place{a, b})), true)
				same(t, what+" keeps odd ends", sameCounts(oddEnds([][]impl.Place{joined}), oddEnds([][]impl.Place{a, b})), true)
			}
		}
	}
	if joinedPairs < 1000 {
		t.Errorf("only %d pairs are joined", joinedPairs)
	}
}

func TestJoinedChainsKeepTheirPoints(t *testing.T) {
	for _, list := range listsForJoins() {
		joined := joinedAll(t, list)
		what := fmt.Sprint("JoinAll ", list)
		// Each join takes away one chain and one of its points.
		points, before := 0, 0
		for _, chain := range joined {
			same(t, what+": a chain", impl.ValidChain(chain), true)
			points += len(chain)
		}
		for _, chain := range list {
			before += len(chain)
			part := slices.ContainsFunc(joined, func(whole []impl.Place) bool { return isPart(chain, whole) || isPart(fromEnd(chain), whole) })
			same(t, fmt.Sprint(what, " keeps ", chain), part, true)
		}
		same(t, what+": points", before-points, len(list)-len(joined))
		same(t, what+" keeps the edges", sameCounts(edgesIn(joined), edgesIn(list)), true)
		same(t, what+" keeps odd ends", sameCounts(oddEnds(joined), oddEnds(list)), true)
		if len(list) > 0 {
			same(t, what+" keeps the first one as it goes", isPart(list[0], joined[0]), true)
		}
	}
}

// Closed chains are there as they were, in the same order.
func TestClosedChainsStayAsTheyAre(t *testing.T) {
	for _, list := range listsForJoins() {
		rest := joinedAll(t, list)
		for _, chain := range list {
			if !ruleClosed(chain) {
				continue
			}
			at := slices.IndexFunc(rest, func(x []impl.Place) bool { return slices.Equal(x, chain) })
			if at < 0 {
				t.Errorf("JoinAll %v: %v is not there", list, chain)
				break
			}
			rest = rest[at+1:]
		}
	}
}

func TestWhatIsLeftCannotBeJoined(t *testing.T) {
	for _, list := range listsForJoins() {
		joined := joinedAll(t, list)
		for i, a := range joined {
			for k, b := range joined {
				if i == k {
					continue
				}
				_, code := impl.JoinTwo(a, b)
				if code != impl.ErrState && code != impl.ErrGap && code != impl.ErrFull {
					t.Errorf("JoinAll %v: got %v, of which JoinTwo %v %v has the code %d", list, joined, a, b, code)
				}
			}
		}
		checkJoinedAll(t, joined, joined...)
	}
}

// Where no chain is too long for another one, an end at which an odd number of chains end is loose afterwards, and no other one is.
func TestOddEndsAreLoose(t *testing.T) {
	for _, list := range listsForJoins() {
		points := 0
		for _, chain := range list {
			points += len(chain)
		}
		if points > maxChain {
			continue
		}
		loose, code := impl.LooseEnds(joinedAll(t, list))
		same(t, "LooseEnds", code, impl.OK)
		odd := oddEnds(list)
		for _, end := range loose {
			same(t, fmt.Sprint("an odd number of chains of ", list, " end at ", end), odd[end], true)
		}
		same(t, fmt.Sprint("many loose ends of ", list), len(loose), len(odd))
	}
}

// The parts of a closed chain, in any order and from either end, are joined to it again, wherever it begins now.
func TestPartsOfOutlinesAreJoinedAgain(t *testing.T) {
	r := rand.New(rand.NewSource(45))
	outlines := [][]impl.Place{triangleOfExample(), roundabout(10), comb(), pentagram(), frame(3, 9, 40, 7), diamond(30, 30, 20), eight(), closeTo(level(1, 1, maxChain-1))}
	for _, outline := range slices.Concat(outlines, [][]impl.Place{fromEnd(comb()), fromEnd(diamond(9, 9, 4))}) {
		for many := 2; many <= min(maxJoined, len(outline)-1); many++ {
			for range 10 {
				list := pieces(r, outline, many)
				joined := joinedAll(t, list)
				same(t, fmt.Sprint("JoinAll ", list, ": many"), len(joined), 1)
				checkClosed(t, joined[0], true)
				area, _ := impl.TwiceArea(joined[0])
				whole, _ := impl.TwiceArea(outline)
				same(t, fmt.Sprint("TwiceArea of ", list, " joined"), max(area, -area), max(whole, -whole))
				for range 20 {
					p := impl.Place{X: r.Int63n(50), Y: r.Int63n(50)}
					same(t, fmt.Sprint("InsideOf ", list, " joined ", p), codedOf(impl.InsideOf(joined[0], p)), codedOf(impl.InsideOf(outline, p)))
				}
				checkLoose(t, joined)
			}
		}
	}
}

// A closed chain that is moved, or begins at another of its points, has the same area, and the same points inside.
func TestMovedOutlinesAreAsBefore(t *testing.T) {
	r := rand.New(rand.NewSource(46))
	for _, chain := range closedChains() {
		area, _ := impl.TwiceArea(chain)
		turn := r.Intn(len(chain) - 1)
		other := closeTo(slices.Concat(chain[turn:len(chain)-1], chain[:turn]))
		checkArea(t, other, area)
		x, y := r.Int63n(41)-20, r.Int63n(41)-20
		moved, code := impl.MoveChain(other, x, y)
		for range 30 {
			p := impl.Place{X: r.Int63n(20), Y: r.Int63n(20)}
			inside, _ := impl.InsideOf(chain, p)
			checkInside(t, other, p.X, p.Y, inside)
			if code == impl.OK && p.X+x >= 0 && p.Y+y >= 0 {
				checkInside(t, moved, p.X+x, p.Y+y, inside)
			}
		}
		if code == impl.OK {
			checkArea(t, moved, area)
			checkMoved(t, moved, -x, -y, other...)
		}
	}
}
