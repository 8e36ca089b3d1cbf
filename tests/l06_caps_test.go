package tests

import (
	"fmt"
	"math"
	"math/big"
	"math/rand"
	"slices"
	"testing"

	"loop.example/g01055/impl"
)

const (
	maxRadius = 100000
	maxRings  = 60
	maxSlits  = 72
)

// An argument has values that keep to its limits, and others that do not.
type argument struct{ right, wrong []int64 }

var (
	aroundArgument = argument{[]int64{1, 360, 1000, maxAround}, wrongArounds()}
	arcArgument    = argument{[]int64{0, 1, turn}, []int64{-1, turn + 1, -turn, 2 * turn, math.MinInt64, math.MaxInt64}}
	northArgument  = argument{[]int64{0, 252000, quarter}, []int64{-1, quarter + 1, -quarter, half, turn, math.MinInt64, math.MaxInt64}}
	// For most of these circumferences, some of these radii are too great.
	radiusArgument = argument{[]int64{0, 1, 90, 91, maxRadius}, []int64{-1, maxRadius + 1, -maxRadius, math.MinInt64, math.MinInt64 + 1, math.MaxInt64}}
	widthArgument  = argument{[]int64{1, 8, maxRadius}, []int64{0, -1, maxRadius + 1, -maxRadius, math.MinInt64, math.MaxInt64}}
)

func allValues(args []argument) [][]int64 {
	if len(args) == 0 {
		return [][]int64{nil}
	}
	var list [][]int64
	for _, rest := range allValues(args[1:]) {
		for _, first := range append(slices.Clone(args[0].right), args[0].wrong...) {
			list = append(list, append([]int64{first}, rest...))
		}
	}
	return list
}

// wrongValues returns all combinations of values of these arguments of which one at least does not keep to its limits.
func wrongValues(args ...argument) [][]int64 {
	return slices.DeleteFunc(allValues(args), func(values []int64) bool {
		for i, n := range values {
			if slices.Contains(args[i].wrong, n) {
				return false
			}
		}
		return true
	})
}

// drawnNorthLats has the equator, the pole, what lies beside them, and some latitudes more that are always the same.
func drawnNorthLats() []int64 {
	list := []int64{0, 1, 108000, 216000, 216001, 252000, 322200, 322201, quarter - 1, quarter}
	r := rand.New(rand.NewSource(12))
	for range 20 {
		list = append(list, r.Int63n(quarter+1))
	}
	return list
}

// drawnRadii has the least and the greatest radii of discs on a globe, and some between them.
func drawnRadii(around int64) []int64 {
	greatest := min(around/4, maxRadius)
	list := []int64{0, min(1, greatest), greatest / 3, greatest / 2, max(greatest-1, 0), greatest}
	r := rand.New(rand.NewSource(13))
	for range 6 {
		list = append(list, r.Int63n(greatest+1))
	}
	return list
}

// ruleFloor returns a product divided by d, rounded down; d is positive.
func ruleFloor(a, b, d int64) int64 {
	product := new(big.Int).Mul(big.NewInt(a), big.NewInt(b))
	return product.Div(product, big.NewInt(d)).Int64()
}

func ruleArcLength(around, arc int64) int64 {
	return roundedQuotient(big.NewInt(around*arc), big.NewInt(turn))
}

func ruleExcess(around, lat int64) int64 {
	rim := roundedQuotient(big.NewInt(ruleArcLength(around, quarter-lat)*710), big.NewInt(113))
	return rim - ruleLength(around, lat)
}

func ruleEdge(around, radius int64) int64 { return quarter - ruleFloor(radius, turn, around) }

// ruleSlits takes one slit after the other.
func ruleSlits(around, lat, most int64) result {
	slits := int64(0)
	for left := ruleExcess(around, lat); left > 0; left -= most {
		if slits++; slits > maxSlits {
			return full
		}
	}
	return result{slits, impl.OK}
}

// ruleRings returns the outer radii of rings; of more than MaxRings, one more than so many.
func ruleRings(radius, width int64) []int64 {
	var rings []int64
	for outer := width; outer < radius && len(rings) < maxRings; outer += width {
		rings = append(rings, outer)
	}
	if radius > 0 {
		rings = append(rings, radius)
	}
	return rings
}

func ruleRingOf(around, radius, width int64, p impl.Spot) result {
	switch {
	case 4*radius > around || len(ruleRings(radius, width)) > maxRings:
		return full
	case p.Lat < ruleEdge(around, radius):
		return notFound
	}
	return result{ruleFloor(ruleFloor(around, quarter-p.Lat, turn), 1, width), impl.OK}
}

func TestLimitsOfCaps(t *testing.T) {
	same(t, "MaxRadius", impl.MaxRadius, maxRadius)
	same(t, "MaxRings", impl.MaxRings, maxRings)
	same(t, "MaxSlits", impl.MaxSlits, maxSlits)
}

func TestExampleOfCaps(t *testing.T) {
	same(t, "CapRadius", resultOf(impl.CapRadius(360, 70*3600)), result{20, impl.OK})
}

func TestArcLength(t *testing.T) {
	for x, want := range map[[2]int64]int64{
		{360, 3600}: 1, {360, 0}: 0, {360, quarter}: 90, {360, half}: 180, {360, turn}: 360, {360, turn - 1}: 360,
		{1, 0}: 0, {1, quarter}: 0, {1, turn}: 1, {maxAround, 0}: 0, {maxAround, 1}: 1, {maxAround, quarter}: 250000, {maxAround, half}: 500000,
		{maxAround, turn - 1}: 999999, {maxAround, turn}: maxAround,
		// A half, and just less.
		{1, half}: 1, {1, half - 1}: 0, {2, quarter}: 1, {2, quarter - 1}: 0, {3, half}: 2, {3, half - 1}: 1, {1000, 648}: 1, {1000, 647}: 0,
		{6, quarter}: 2, {999999, half}: 500000, {999998, quarter}: 250000, {360, 1800}: 1, {360, 1799}: 0,
	} {
		same(t, fmt.Sprint("ArcLength ", x), resultOf(impl.ArcLength(x[0], x[1])), result{want, impl.OK})
	}
	r := rand.New(rand.NewSource(14))
	for _, around := range drawnArounds() {
		for _, arc := range append(drawnNorthLats(), half-1, half, half+1, turn-1, turn, r.Int63n(turn+1), r.Int63n(turn+1)) {
			same(t, fmt.Sprint("ArcLength ", around, arc), resultOf(impl.ArcLength(around, arc)), result{ruleArcLength(around, arc), impl.OK})
		}
	}
	for _, x := range wrongValues(aroundArgument, arcArgument) {
		same(t, fmt.Sprint("ArcLength ", x), resultOf(impl.ArcLength(x[0], x[1])), outOfRange)
	}
}

func TestCapRadius(t *testing.T) {
	for x, want := range map[[2]int64]int64{
		{360, 252000}: 20, {360, 0}: 90, {360, 1}: 90, {360, quarter}: 0, {360, quarter - 1}: 0, {360, 216000}: 30,
		{1, 0}: 0, {1, 1}: 0, {1, quarter}: 0, {3, 0}: 1, {4, 0}: 1, {5, 0}: 1, {maxAround, 0}: 250000, {maxAround, 1}: 249999,
		{maxAround, quarter - 1}: 1, {maxAround, quarter}: 0,
		// A half, and just less.
		{2, 0}: 1, {2, 1}: 0, {6, 0}: 2, {6, 1}: 1, {360, 322200}: 1, {360, 322201}: 0, {1000, quarter - 648}: 1, {1000, quarter - 647}: 0,
	} {
		same(t, fmt.Sprint("CapRadius ", x), resultOf(impl.CapRadius(x[0], x[1])), result{want, impl.OK})
	}
	for _, around := range drawnArounds() {
		for _, lat := range drawnNorthLats() {
			same(t, fmt.Sprint("CapRadius ", around, lat), resultOf(impl.CapRadius(around, lat)), result{ruleArcLength(around, quarter-lat), impl.OK})
		}
	}
	for _, x := range wrongValues(aroundArgument, northArgument) {
		same(t, fmt.Sprint("CapRadius ", x), resultOf(impl.CapRadius(x[0], x[1])), outOfRange)
	}
}

func TestCapEdge(t *testing.T) {
	for x, want := range map[[2]int64]result{
		{360, 20}: {252000, impl.OK}, {360, 0}: {quarter, impl.OK}, {1, 0}: {quarter, impl.OK}, {maxAround, 0}: {quarter, impl.OK},
		// A quarter of the circumference, and one more.
		{360, 90}: {0, impl.OK}, {360, 91}: full, {4, 1}: {0, impl.OK}, {4, 2}: full, {3, 1}: full, {1, 1}: full, {361, 90}: {898, impl.OK}, {359, 90}: full,
		{400000, maxRadius}: {0, impl.OK}, {399999, maxRadius}: full, {400001, maxRadius}: {1, impl.OK}, {1, maxRadius}: full,
		// Quotients that are rounded down.
		{5, 1}: {64800, impl.OK}, {7, 1}: {138858, impl.OK}, {1000, 77}: {224208, impl.OK}, {maxAround, 1}: {quarter - 1, impl.OK},
		{maxAround, maxRadius}: {194400, impl.OK},
	} {
		same(t, fmt.Sprint("CapEdge ", x), resultOf(impl.CapEdge(x[0], x[1])), want)
	}
	for _, around := range drawnArounds() {
		for _, radius := range drawnRadii(around) {
			same(t, fmt.Sprint("CapEdge ", around, radius), resultOf(impl.CapEdge(around, radius)), result{ruleEdge(around, radius), impl.OK})
		}
		if around/4 < maxRadius {
			same(t, fmt.Sprint("CapEdge ", around, around/4+1), resultOf(impl.CapEdge(around, around/4+1)), full)
		}
	}
	for _, x := range wrongValues(aroundArgument, radiusArgument) {
		same(t, fmt.Sprint("CapEdge ", x), resultOf(impl.CapEdge(x[0], x[1])), outOfRange)
	}
}

// No rim is a half before it is rounded: 710 times a radius would be an odd number of halves of 113.
func TestRimExcess(t *testing.T) {
	for x, want := range map[[2]int64]int64{
		{360, 0}: 205, {360, quarter}: 0, {360, 252000}: 2, {360, 216000}: 8, {1000, 0}: 571, {4, 0}: 2, {5, 0}: 1, {3, 0}: 3,
		{maxAround, 0}: 570796, {maxAround, 1}: 570790, {maxAround, quarter - 1}: 1, {maxAround, quarter}: 0,
		// A radius, and a length of the parallel, of just a half.
		{2, 0}: 4, {6, 0}: 7, {1, 216000}: -1, {1, 216001}: 0,
		// Parallels that are longer than the rim, or as long.
		{1, 0}: -1, {1, 1}: -1, {2, 8100}: -2, {1, quarter}: 0, {7, 108000}: 0, {10, 216000}: 1, {9, 200000}: 1,
	} {
		same(t, fmt.Sprint("RimExcess ", x), resultOf(impl.RimExcess(x[0], x[1])), result{want, impl.OK})
	}
	for _, around := range drawnArounds() {
		for _, lat := range drawnNorthLats() {
			same(t, fmt.Sprint("RimExcess ", around, lat), resultOf(impl.RimExcess(around, lat)), result{ruleExcess(around, lat), impl.OK})
		}
	}
	for _, x := range wrongValues(aroundArgument, northArgument) {
		same(t, fmt.Sprint("RimExcess ", x), resultOf(impl.RimExcess(x[0], x[1])), outOfRange)
	}
}

func TestSlitsFor(t *testing.T) {
	for x, want := range map[[3]int64]result{
		{360, 0, 50}: {5, impl.OK}, {360, 0, 41}: {5, impl.OK}, {360, 0, 40}: {6, impl.OK}, {360, 0, 205}: {1, impl.OK}, {360, 0, 204}: {2, impl.OK},
		{360, 0, 3}: {69, impl.OK}, {360, 0, 2}: full, {360, 0, 1}: full, {360, 0, maxRadius}: {1, impl.OK},
		// Excesses of 72, 73, 144 and 145.
		{123, 0, 1}: {maxSlits, impl.OK}, {122, 0, 1}: full, {128, 0, 1}: full, {129, 0, 1}: {maxSlits, impl.OK},
		{246, 0, 2}: {maxSlits, impl.OK}, {251, 0, 2}: full, {251, 0, 3}: {49, impl.OK},
		{maxAround, 0, maxRadius}: {6, impl.OK}, {maxAround, 0, 7928}: {maxSlits, impl.OK}, {maxAround, 0, 7927}: full, {maxAround, 0, 1}: full,
		// Excesses of 0, and below 0.
		{360, quarter, 1}: {0, impl.OK}, {360, quarter, maxRadius}: {0, impl.OK}, {7, 108000, 1}: {0, impl.OK}, {1, 0, 1}: {0, impl.OK},
		{1, 0, maxRadius}: {0, impl.OK}, {2, 8100, 1}: {0, impl.OK}, {2, 8100, 2}: {0, impl.OK}, {maxAround, quarter - 1, 1}: {1, impl.OK},
	} {
		same(t, fmt.Sprint("SlitsFor ", x), resultOf(impl.SlitsFor(x[0], x[1], x[2])), want)
	}
	for _, around := range drawnArounds() {
		for _, lat := range drawnNorthLats() {
			excess := ruleExcess(around, lat)
			for _, most := range []int64{1, 2, 8, 50, excess / 73, excess / 72, excess/72 + 1, excess/71 + 1, excess - 1, excess, excess + 1, maxRadius} {
				if most >= 1 && most <= maxRadius {
					same(t, fmt.Sprint("SlitsFor ", around, lat, most), resultOf(impl.SlitsFor(around, lat, most)), ruleSlits(around, lat, most))
				}
			}
		}
	}
	for _, x := range wrongValues(aroundArgument, northArgument, widthArgument) {
		same(t, fmt.Sprint("SlitsFor ", x), resultOf(impl.SlitsFor(x[0], x[1], x[2])), outOfRange)
	}
}

func checkRings(t *testing.T, radius, width, wantCode int64, want ...int64) {
	t.Helper()
	rings, code := impl.RingsOf(radius, width)
	same(t, fmt.Sprint("RingsOf ", radius, width), code, wantCode)
	if !slices.Equal(rings, want) {
		t.Errorf("RingsOf %d %d: got %v, want %v", radius, width, rings, want)
	}
}

func TestRingsOf(t *testing.T) {
	checkRings(t, 20, 8, impl.OK, 8, 16, 20)
	checkRings(t, 17, 8, impl.OK, 8, 16, 17)
	checkRings(t, 16, 8, impl.OK, 8, 16)
	checkRings(t, 15, 8, impl.OK, 8, 15)
	checkRings(t, 4, 1, impl.OK, 1, 2, 3, 4)
	// The innermost ring is the only one if the width is the radius, or beyond it.
	checkRings(t, 8, 8, impl.OK, 8)
	checkRings(t, 7, 8, impl.OK, 7)
	checkRings(t, 1, 1, impl.OK, 1)
	checkRings(t, 1, maxRadius, impl.OK, 1)
	checkRings(t, maxRadius, maxRadius, impl.OK, maxRadius)
	checkRings(t, maxRadius, maxRadius-1, impl.OK, maxRadius-1, maxRadius)
	for _, width := range []int64{1, 8, maxRadius} {
		checkRings(t, 0, width, impl.OK)
	}
	for _, radius := range []int64{0, 1, 2, 59, 60, 61, 119, 120, 121, 1000, 99999, maxRadius} {
		for _, width := range []int64{1, 2, 7, 1666, 1667, max(radius/61, 1), max(radius/60, 1), radius/60 + 1, radius/59 + 1, max(radius, 1), maxRadius} {
			if want := ruleRings(radius, width); len(want) <= maxRings {
				checkRings(t, radius, width, impl.OK, want...)
			} else {
				checkRings(t, radius, width, impl.ErrFull)
			}
		}
	}
}

func TestNumbersOfRings(t *testing.T) {
	for _, width := range []int64{1, 2, 7, 1000, maxRadius / 61} {
		most := maxRings * width
		for _, radius := range []int64{most - width + 1, most} {
			rings, code := impl.RingsOf(radius, width)
			same(t, fmt.Sprint("RingsOf ", radius, width), code, impl.OK)
			same(t, fmt.Sprint("rings of ", radius, width), len(rings), maxRings)
			same(t, "the innermost ring", rings[0], width)
			same(t, "the outermost ring", rings[maxRings-1], radius)
		}
		checkRings(t, most+1, width, impl.ErrFull)
		checkRings(t, maxRadius, width, impl.ErrFull)
	}
	for _, x := range wrongValues(radiusArgument, widthArgument) {
		checkRings(t, x[0], x[1], impl.ErrRange)
	}
}

func TestRingOf(t *testing.T) {
	for _, x := range []struct {
		around, radius, width, lat int64
		want                       result
	}{
		// From the pole to the edge, and beyond it.
		{360, 20, 8, quarter, result{0, impl.OK}}, {360, 20, 8, quarter - 1, result{0, impl.OK}}, {360, 20, 8, 295201, result{0, impl.OK}},
		{360, 20, 8, 295200, result{1, impl.OK}}, {360, 20, 8, 280800, result{1, impl.OK}}, {360, 20, 8, 266401, result{1, impl.OK}},
		{360, 20, 8, 266400, result{2, impl.OK}}, {360, 20, 8, 252000, result{2, impl.OK}}, {360, 20, 8, 251999, notFound}, {360, 20, 8, 0, notFound},
		{360, 20, 8, -1, notFound}, {360, 20, 8, -252000, notFound}, {360, 20, 8, -quarter, notFound},
		// Widths of 1, of the radius and beyond it. Just at the edge of a disc of whole rings, the rule tells the number behind the last ring.
		{360, 20, 1, quarter, result{0, impl.OK}}, {360, 20, 1, 320400, result{1, impl.OK}}, {360, 20, 1, 252001, result{19, impl.OK}},
		{360, 20, 1, 252000, result{20, impl.OK}}, {360, 20, 10, 252001, result{1, impl.OK}}, {360, 20, 10, 252000, result{2, impl.OK}},
		{360, 20, 20, 252001, result{0, impl.OK}}, {360, 20, 20, 252000, result{1, impl.OK}}, {360, 20, 21, 252000, result{0, impl.OK}},
		{360, 20, maxRadius, 252000, result{0, impl.OK}}, {360, 20, maxRadius, 251999, notFound},
		// Radii of 0, of a quarter of the circumference, and of one more.
		{360, 0, 8, quarter, result{0, impl.OK}}, {360, 0, 8, quarter - 1, notFound}, {1, 0, 1, quarter, result{0, impl.OK}}, {1, 0, 1, quarter - 1, notFound},
		{360, 90, 8, 0, result{11, impl.OK}}, {360, 90, 8, 1, result{11, impl.OK}}, {360, 90, 8, -1, notFound}, {360, 91, 8, quarter, full},
		{4, 1, 1, 1, result{0, impl.OK}}, {4, 1, 1, 0, result{1, impl.OK}}, {4, 1, 2, 0, result{0, impl.OK}}, {3, 1, 1, quarter, full},
		// MaxRings rings, and one more.
		{360, 60, 1, quarter, result{0, impl.OK}}, {360, 60, 1, 108000, result{60, impl.OK}}, {360, 60, 1, 107999, notFound}, {360, 61, 1, quarter, full},
		{maxAround, maxRadius, 1667, 194400, result{59, impl.OK}}, {maxAround, maxRadius, 1666, quarter, full}, {maxAround, maxRadius, 1666, -quarter, full},
		// Several errors at once.
		{360, 61, 1, -quarter, full}, {360, 91, 1, -quarter, full}, {360, 91, 100, 0, full}, {1, maxRadius, 1, -quarter, full},
		// Rounded down twice.
		{1000, 77, 10, 224208, result{7, impl.OK}}, {1000, 77, 10, 224207, notFound}, {maxAround, 1, 1, quarter - 1, result{0, impl.OK}},
		{maxAround, 2, 1, quarter - 2, result{1, impl.OK}}, {7, 1, 1, 138858, result{0, impl.OK}},
	} {
		for _, lon := range []int64{0, 77, half - 1, -half} {
			p := impl.Spot{Lat: x.lat, Lon: lon}
			same(t, fmt.Sprint("RingOf ", x, lon), resultOf(impl.RingOf(x.around, x.radius, x.width, p)), x.want)
		}
	}
	others := slices.Concat(drawnSpots()[:12], drawnSpots()[132:])
	for _, around := range drawnArounds() {
		for _, radius := range drawnRadii(around) {
			edge := ruleEdge(around, radius)
			spots := append(onMeridian(edge, edge-1, (edge+quarter)/2, quarter-1), others...)
			for _, width := range []int64{1, 2, 8, radius/60 + 1, max(radius/3, 1), max(radius-1, 1), max(radius, 1), radius + 1, maxRadius} {
				for _, p := range spots {
					if width <= maxRadius {
						what := fmt.Sprint("RingOf ", around, radius, width, " ", name(p))
						same(t, what, resultOf(impl.RingOf(around, radius, width, p)), ruleRingOf(around, radius, width, p))
					}
				}
			}
		}
	}
}

// A place belongs to the innermost ring as long as it is nearer to the pole than the width, and so on for the other rings.
func TestEdgesOfRings(t *testing.T) {
	for _, x := range [][3]int64{{360, 90, 8}, {360, 90, 2}, {1000, 250, 17}, {1000, 60, 1}, {7919, 1234, 100}, {maxAround, maxRadius, 1667}, {maxAround, 60, 1}, {4, 1, 1}, {5, 1, 7}} {
		around, radius, width := x[0], x[1], x[2]
		same(t, "the pole", resultOf(impl.RingOf(around, radius, width, impl.Spot{Lat: quarter, Lon: 5})), result{0, impl.OK})
		for k, outer := range ruleRings(radius, width) {
			// The southernmost latitude that is nearer than the outer radius.
			inside := quarter - ruleFloor(outer*turn-1, 1, around)
			what := fmt.Sprint("RingOf ", x, " ring ", k)
			same(t, what+" just inside", resultOf(impl.RingOf(around, radius, width, impl.Spot{Lat: inside})), result{int64(k), impl.OK})
			if outer < radius {
				same(t, what+" just outside", resultOf(impl.RingOf(around, radius, width, impl.Spot{Lat: inside - 1})), result{int64(k) + 1, impl.OK})
			}
		}
	}
}

func TestErrorsOfRingOf(t *testing.T) {
	for _, x := range wrongValues(aroundArgument, radiusArgument, widthArgument) {
		for _, p := range []impl.Spot{{}, {Lat: quarter}, {Lat: -quarter, Lon: -half}} {
			same(t, fmt.Sprint("RingOf ", x, " ", name(p)), resultOf(impl.RingOf(x[0], x[1], x[2], p)), outOfRange)
		}
	}
	for _, x := range allValues([]argument{aroundArgument, radiusArgument, widthArgument}) {
		for _, p := range wrongSpots() {
			same(t, fmt.Sprint("RingOf ", x, " ", name(p)), resultOf(impl.RingOf(x[0], x[1], x[2], p)), invalid)
		}
	}
}

func TestCapOverlap(t *testing.T) {
	for x, want := range map[[3]int64]result{
		{360, 23, 252000}: {3, impl.OK}, {360, 20, 252000}: {0, impl.OK}, {360, 18, 252000}: {-2, impl.OK}, {360, 0, 252000}: {-20, impl.OK},
		{360, 0, 0}: {-90, impl.OK}, {360, 90, 0}: {0, impl.OK}, {360, 90, quarter}: {90, impl.OK}, {360, 0, quarter}: {0, impl.OK},
		{360, 91, 0}: full, {360, 91, quarter}: full, {1, 0, 0}: {0, impl.OK}, {1, 1, 0}: full, {1, maxRadius, 0}: full,
		{maxAround, 0, 0}: {-250000, impl.OK}, {maxAround, maxRadius, quarter}: {maxRadius, impl.OK}, {maxAround, maxRadius, quarter - 1}: {maxRadius - 1, impl.OK},
		{maxAround, maxRadius, 0}: {maxRadius - 250000, impl.OK}, {400000, maxRadius, 0}: {0, impl.OK}, {399999, maxRadius, quarter}: full,
		// Radii of parallels that end in just a half, and in just less.
		{2, 0, 0}: {-1, impl.OK}, {2, 0, 1}: {0, impl.OK}, {6, 1, 0}: {-1, impl.OK}, {6, 1, 1}: {0, impl.OK}, {360, 1, 322200}: {0, impl.OK}, {360, 1, 322201}: {1, impl.OK},
	} {
		same(t, fmt.Sprint("CapOverlap ", x), resultOf(impl.CapOverlap(x[0], x[1], x[2])), want)
	}
	for _, around := range drawnArounds() {
		for _, lat := range drawnNorthLats() {
			for _, radius := range drawnRadii(around) {
				want := result{radius - ruleArcLength(around, quarter-lat), impl.OK}
				same(t, fmt.Sprint("CapOverlap ", around, radius, lat), resultOf(impl.CapOverlap(around, radius, lat)), want)
			}
			if around/4 < maxRadius {
				same(t, fmt.Sprint("CapOverlap ", around, around/4+1, lat), resultOf(impl.CapOverlap(around, around/4+1, lat)), full)
			}
		}
	}
	for _, x := range wrongValues(aroundArgument, radiusArgument, northArgument) {
		same(t, fmt.Sprint("CapOverlap ", x), resultOf(impl.CapOverlap(x[0], x[1], x[2])), outOfRange)
	}
}

func TestSmallestCap(t *testing.T) {
	for x, want := range map[[3]int64]result{
		{360, 252000, 3}: {23, impl.OK}, {360, 252000, 0}: {20, impl.OK}, {360, 252000, 70}: {90, impl.OK}, {360, 252000, 71}: full,
		{360, 0, 0}: {90, impl.OK}, {360, 0, 1}: full, {360, quarter, 0}: {0, impl.OK}, {360, quarter, 90}: {90, impl.OK}, {360, quarter, 91}: full,
		{360, quarter, maxRadius}: full, {1, 0, 0}: {0, impl.OK}, {1, 0, 1}: full, {4, 0, 0}: {1, impl.OK},
		// The radius of a quarter turn is rounded, so that the disc would reach beyond the equator.
		{2, 0, 0}: full, {3, 0, 0}: full, {2, 1, 0}: {0, impl.OK}, {399999, 0, 0}: full, {400002, 0, 0}: full,
		// MaxRadius, and one more.
		{400000, 0, 0}: {maxRadius, impl.OK}, {400001, 0, 0}: {maxRadius, impl.OK}, {400001, 0, 1}: full, {maxAround, quarter, maxRadius}: {maxRadius, impl.OK},
		{maxAround, quarter - 1, maxRadius - 1}: {maxRadius, impl.OK}, {maxAround, quarter - 1, maxRadius}: full, {maxAround, 0, 0}: full, {maxAround, 0, maxRadius}: full,
		{maxAround, 194400, 0}: {maxRadius, impl.OK}, {maxAround, 194400, 1}: full, {maxAround, 194399, 0}: full,
	} {
		same(t, fmt.Sprint("SmallestCap ", x), resultOf(impl.SmallestCap(x[0], x[1], x[2])), want)
	}
	for _, around := range drawnArounds() {
		for _, lat := range drawnNorthLats() {
			least := ruleArcLength(around, quarter-lat)
			for _, overlap := range []int64{0, 1, 2, 20, around/4 - least, around/4 - least + 1, maxRadius - least, maxRadius - least + 1, maxRadius} {
				if overlap < 0 || overlap > maxRadius {
					continue
				}
				want := result{least + overlap, impl.OK}
				if want.value > maxRadius || 4*want.value > around {
					want = full
				}
				same(t, fmt.Sprint("SmallestCap ", around, lat, overlap), resultOf(impl.SmallestCap(around, lat, overlap)), want)
			}
		}
	}
	for _, x := range wrongValues(aroundArgument, northArgument, radiusArgument) {
		same(t, fmt.Sprint("SmallestCap ", x), resultOf(impl.SmallestCap(x[0], x[1], x[2])), outOfRange)
	}
}

func checkUnder(t *testing.T, around, radius int64, list []impl.Spot, wantCode int64, want ...int64) {
	t.Helper()
	under, code := impl.UnderCap(around, radius, list)
	same(t, fmt.Sprint("UnderCap ", around, radius, " of ", len(list)), code, wantCode)
	if !slices.Equal(under, want) {
		t.Errorf("UnderCap %d %d %v: got %v, want %v", around, radius, list, under, want)
	}
}

func TestUnderCap(t *testing.T) {
	checkUnder(t, 360, 20, onMeridian(252000, 251999, quarter), impl.OK, 0, 2)
	checkUnder(t, 360, 20, []impl.Spot{{Lat: 252000, Lon: -half}, {Lat: 251999, Lon: half - 1}, {Lat: quarter, Lon: 77}}, impl.OK, 0, 2)
	checkUnder(t, 360, 20, nil, impl.OK)
	checkUnder(t, 360, 20, []impl.Spot{}, impl.OK)
	// Equal places are told as often as they are there.
	checkUnder(t, 360, 20, onMeridian(quarter, 0, quarter, 0, quarter), impl.OK, 0, 2, 4)
	checkUnder(t, 360, 90, onMeridian(0, -1, 1, -quarter, 0), impl.OK, 0, 2, 4)
	checkUnder(t, 360, 0, onMeridian(quarter-1, quarter, -quarter, 0), impl.OK, 1)
	checkUnder(t, 1, 0, append(atPole(3), impl.Spot{Lat: quarter - 1}), impl.OK, 0, 1, 2)
	checkUnder(t, 7, 1, onMeridian(138857, 138858), impl.OK, 1)
	checkUnder(t, 400001, maxRadius, onMeridian(0, 1), impl.OK, 1)
	whole := make([]int64, 100)
	for i := range whole {
		whole[i] = int64(i)
	}
	checkUnder(t, maxAround, 0, atPole(100), impl.OK, whole...)
	for _, around := range drawnArounds() {
		for _, radius := range drawnRadii(around) {
			edge := ruleEdge(around, radius)
			list := append(drawnSpots()[60:156], onMeridian(edge, edge-1, edge, max(-edge, edge))...)
			var want []int64
			for i, p := range list {
				if p.Lat >= edge {
					want = append(want, int64(i))
				}
			}
			checkUnder(t, around, radius, list, impl.OK, want...)
		}
	}
}

func TestErrorsOfUnderCap(t *testing.T) {
	for _, many := range []int{0, 1, 100, 101, 1000} {
		for _, x := range wrongValues(aroundArgument, radiusArgument) {
			checkUnder(t, x[0], x[1], make([]impl.Spot, many), impl.ErrRange)
		}
	}
	// A list that is too long is refused before a radius that is too great.
	for _, many := range []int{101, 102, 1000, 100000} {
		for _, radius := range radiusArgument.right {
			checkUnder(t, 360, radius, make([]impl.Spot, many), impl.ErrRange)
		}
	}
	for _, many := range []int{0, 1, 100} {
		checkUnder(t, 360, 91, make([]impl.Spot, many), impl.ErrFull)
		checkUnder(t, 1, 1, make([]impl.Spot, many), impl.ErrFull)
		checkUnder(t, 399999, maxRadius, make([]impl.Spot, many), impl.ErrFull)
	}
	for _, wrong := range wrongSpots() {
		for _, many := range []int{1, 2, 100, 101, 1000} {
			for _, at := range []int{0, many / 2, many - 1} {
				list := make([]impl.Spot, many)
				list[at] = wrong
				for _, x := range [][2]int64{{360, 20}, {360, 91}, {0, 20}, {360, -1}, {math.MinInt64, math.MaxInt64}, {maxAround + 1, maxRadius + 1}} {
					checkUnder(t, x[0], x[1], list, impl.ErrInvalid)
				}
			}
		}
	}
}

// What a disc covers is what lies on its rings.
func TestPlacesUnderACapHaveRings(t *testing.T) {
	list := drawnSpots()[56:156]
	for _, around := range drawnArounds() {
		for _, radius := range drawnRadii(around) {
			under, code := impl.UnderCap(around, radius, list)
			same(t, "UnderCap", code, impl.OK)
			for i, p := range list {
				want := int64(impl.ErrNotFound)
				if slices.Contains(under, int64(i)) {
					want = impl.OK
				}
				_, code := impl.RingOf(around, radius, maxRadius, p)
				same(t, fmt.Sprint("RingOf ", around, radius, " ", name(p)), code, want)
			}
		}
	}
}
