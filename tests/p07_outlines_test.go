package tests

import (
	"fmt"
	"testing"

	"loop.example/g01055/impl"
)

// pointsNeeded returns the number of the fewest points.
func pointsNeeded(t *testing.T, chain []impl.Place, bound int64) int64 {
	t.Helper()
	points, code := impl.FewestPoints(chain, bound)
	same(t, fmt.Sprint("FewestPoints ", chain, bound), code, impl.OK)
	return int64(len(points))
}

func TestToldBoundsAreTheLeastOnes(t *testing.T) {
	for _, chain := range allChains() {
		before := int64(maxWithin)
		for many := int64(2); many <= maxChain; many++ {
			bound, code := impl.LeastBound(chain, many)
			what := fmt.Sprint("LeastBound ", chain, many)
			same(t, what, code, impl.OK)
			if bound < 0 || bound > before {
				t.Errorf("%s: got %d, but with one point less %d", what, bound, before)
			}
			before = bound
			if needed := pointsNeeded(t, chain, bound); needed > many {
				t.Errorf("%s: got %d, but within it %d points are needed", what, bound, needed)
			}
			// Any lesser bound, the greatest one of them among the others.
			for _, lesser := range []int64{bound - 1, bound - 2, bound / 2, 0} {
				if lesser >= 0 && lesser < bound && pointsNeeded(t, chain, lesser) <= many {
					t.Errorf("%s: got %d, but within %d as many points stand", what, bound, lesser)
				}
			}
		}
	}
}

// Within a greater bound, no more points are needed; within MaxWithin, two are enough for any chain.
func TestGreaterBoundsNeedNoMorePoints(t *testing.T) {
	for _, chain := range allChains() {
		before := int64(len(chain))
		for _, bound := range fewBounds(chain) {
			needed := pointsNeeded(t, chain, bound)
			if needed > before {
				t.Errorf("FewestPoints %v %d: got %d points, but %d within a lesser bound", chain, bound, needed, before)
			}
			before = needed
		}
		same(t, fmt.Sprint("points of ", chain, " within MaxWithin"), before, 2)
	}
}

// As many points as are told are enough within the told bound of so many.
func TestToldPointsHaveTheirBound(t *testing.T) {
	for _, chain := range allChains() {
		for _, bound := range fewBounds(chain) {
			least, code := impl.LeastBound(chain, pointsNeeded(t, chain, bound))
			same(t, "LeastBound", code, impl.OK)
			if least > bound {
				t.Errorf("LeastBound %v: got %d, but as many points stand within %d", chain, least, bound)
			}
		}
	}
}

func TestChainsFromTheirEndNeedAsManyPoints(t *testing.T) {
	for _, chain := range allChains() {
		back, code := impl.ReverseChain(chain)
		same(t, "ReverseChain", code, impl.OK)
		for _, bound := range fewBounds(chain) {
			what := fmt.Sprint("points of ", chain, " from its end within ", bound)
			same(t, what, pointsNeeded(t, back, bound), pointsNeeded(t, chain, bound))
		}
		for many := int64(2); many <= maxChain; many++ {
			what := fmt.Sprint("LeastBound ", chain, " from its end ", many)
			same(t, what, resultOf(impl.LeastBound(back, many)), resultOf(impl.LeastBound(chain, many)))
		}
		again, _ := impl.ReverseChain(back)
		same(t, "a chain from its end, from its end", impl.SameChain(again, chain), true)
	}
}

// The lines between the told points may stand for their parts, and those of a chain from its end for the same parts.
func TestLinesBetweenToldPointsMayStand(t *testing.T) {
	for _, chain := range allChains() {
		last := int64(len(chain) - 1)
		back, _ := impl.ReverseChain(chain)
		for _, bound := range fewBounds(chain) {
			few, _ := impl.FewestPoints(chain, bound)
			long, _ := impl.LongSteps(chain, bound)
			for _, points := range [][]int64{few, long} {
				same(t, "the first point", points[0], 0)
				same(t, "the last point", points[len(points)-1], last)
				for i := range len(points) - 1 {
					checkStays(t, chain, points[i], points[i+1], bound, true)
					checkStays(t, back, last-points[i+1], last-points[i], bound, true)
				}
			}
			if len(few) > len(long) {
				t.Errorf("FewestPoints %v %d: got %v, but the long steps are %v", chain, bound, few, long)
			}
		}
	}
}
