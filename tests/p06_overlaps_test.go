package tests

import (
	"fmt"
	"testing"

	"loop.example/g01055/impl"
)

// greatestDisc returns the greatest radius of a disc that does not reach beyond the equator.
func greatestDisc(around int64) int64 { return min(around/4, maxRadius) }

// leastCap looks at one disc after the other; it returns the first one with at least so much overlap.
func leastCap(t *testing.T, around, lat, overlap int64) result {
	t.Helper()
	for radius := range greatestDisc(around) + 1 {
		here, code := impl.CapOverlap(around, radius, lat)
		same(t, "CapOverlap", code, impl.OK)
		if here >= overlap {
			return result{radius, impl.OK}
		}
	}
	return full
}

func TestToldCapsAreTheLeastOnes(t *testing.T) {
	for around := int64(1); around <= 130; around++ {
		for _, lat := range drawnNorthLats() {
			for _, overlap := range []int64{0, 1, 2, 3, 8, 20, around / 4, around/4 + 1} {
				what := fmt.Sprint("SmallestCap ", around, lat, overlap)
				same(t, what, resultOf(impl.SmallestCap(around, lat, overlap)), leastCap(t, around, lat, overlap))
			}
		}
	}
	for _, around := range []int64{360, 1000, 1001, 399999, 400000, 400001, 400002, maxAround} {
		for _, lat := range []int64{0, 1, 216000, 252000, quarter - 1, quarter} {
			for _, overlap := range []int64{0, 20, maxRadius - 1, maxRadius} {
				what := fmt.Sprint("SmallestCap ", around, lat, overlap)
				same(t, what, resultOf(impl.SmallestCap(around, lat, overlap)), leastCap(t, around, lat, overlap))
			}
		}
	}
}

// An overlap that is asked for is that of the told cap, and a cap that is less by one has less of it.
func TestToldCapsHaveTheirOverlap(t *testing.T) {
	for _, around := range drawnArounds() {
		for _, lat := range drawnNorthLats() {
			for _, overlap := range []int64{0, 1, 3, 77, around / 8, around / 5} {
				if overlap > maxRadius {
					continue
				}
				radius, code := impl.SmallestCap(around, lat, overlap)
				what := fmt.Sprint("CapOverlap ", around, radius, lat)
				if code != impl.OK {
					same(t, fmt.Sprint("SmallestCap ", around, lat, overlap), result{radius, code}, full)
					greatest, _ := impl.CapOverlap(around, greatestDisc(around), lat)
					if greatest >= overlap {
						t.Errorf("SmallestCap %d %d %d: got %d, but a disc has %d", around, lat, overlap, code, greatest)
					}
					continue
				}
				same(t, what, resultOf(impl.CapOverlap(around, radius, lat)), result{overlap, impl.OK})
				if radius > 0 {
					same(t, what+" less by one", resultOf(impl.CapOverlap(around, radius-1, lat)), result{overlap - 1, impl.OK})
				}
			}
		}
	}
}

// A disc with an overlap is the least one with it; one with a gap is less than the least one without a gap, by just this gap.
func TestToldOverlapsLeadBack(t *testing.T) {
	for _, around := range drawnArounds() {
		for _, lat := range drawnNorthLats() {
			for _, radius := range drawnRadii(around) {
				overlap, code := impl.CapOverlap(around, radius, lat)
				what := fmt.Sprint(around, radius, lat)
				same(t, "CapOverlap "+what, code, impl.OK)
				if overlap >= 0 {
					same(t, "SmallestCap with the overlap of "+what, resultOf(impl.SmallestCap(around, lat, overlap)), result{radius, impl.OK})
				} else {
					same(t, "CapRadius with the gap of "+what, resultOf(impl.CapRadius(around, lat)), result{radius - overlap, impl.OK})
				}
			}
		}
	}
}

// The least cap without a gap has the radius down to its parallel, and the first ring that has it as its width is the only one.
func TestCapsWithoutOverlap(t *testing.T) {
	for _, around := range drawnArounds() {
		for _, lat := range drawnNorthLats() {
			radius, code := impl.SmallestCap(around, lat, 0)
			if code != impl.OK {
				continue
			}
			same(t, fmt.Sprint("CapRadius ", around, lat), resultOf(impl.CapRadius(around, lat)), result{radius, impl.OK})
			same(t, fmt.Sprint("CapOverlap ", around, radius, lat), resultOf(impl.CapOverlap(around, radius, lat)), result{0, impl.OK})
			if radius > 0 {
				checkRings(t, radius, radius, impl.OK, radius)
			}
		}
	}
}
