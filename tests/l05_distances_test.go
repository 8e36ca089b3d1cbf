package tests

import (
	"fmt"
	"math"
	"math/big"
	"math/rand"
	"slices"
	"sync"
	"testing"

	"loop.example/g01055/impl"
)

const (
	maxRoute  = 12
	maxVisits = 7
	// The distance of different spots with the cosine Unit, and that of spots with the cosine -Unit.
	nearest  = 204
	farthest = 647796
)

// ruleCosDistance returns the cosine of the distance by the words of the document.
func ruleCosDistance(a, b impl.Spot) int64 {
	heights := new(big.Int).Mul(big.NewInt(ruleSine(a.Lat)*ruleSine(b.Lat)), big.NewInt(unit))
	widths := new(big.Int).Mul(big.NewInt(ruleSine(a.Lat+quarter)*ruleSine(b.Lat+quarter)), big.NewInt(ruleSine(b.Lon-a.Lon+quarter)))
	// The quotient of Div is rounded down, as the divisor is positive.
	c := new(big.Int).Div(heights.Add(heights, widths), big.NewInt(unit*unit)).Int64()
	return max(-unit, min(unit, c))
}

// ruleQuarter returns the sines of all angles from 0 to a quarter turn by the words of the document.
var ruleQuarter = sync.OnceValue(func() []int64 {
	sines := make([]int64, quarter+1)
	for angle := range sines {
		sines[angle] = ruleSine(int64(angle))
	}
	return sines
})

func ruleArc(sine int64) int64 {
	angle, _ := slices.BinarySearch(ruleQuarter(), sine)
	return int64(angle)
}

func ruleDistance(a, b impl.Spot) int64 {
	if a == b {
		return 0
	}
	c := ruleCosDistance(a, b)
	if c < 0 {
		return max(1, quarter+ruleArc(-c))
	}
	return max(1, quarter-ruleArc(c))
}

func ruleRow(a impl.Spot, list []impl.Spot) []int64 {
	var row []int64
	for _, p := range list {
		row = append(row, ruleDistance(a, p))
	}
	return row
}

func ruleTable(list []impl.Spot) [][]int64 {
	var table [][]int64
	for _, a := range list {
		table = append(table, ruleRow(a, list))
	}
	return table
}

// ordersFrom returns all orders of many numbers that begin with these, from the least to the greatest one, compared number by number.
func ordersFrom(begin []int64, many int64) [][]int64 {
	if int64(len(begin)) == many {
		return [][]int64{begin}
	}
	var orders [][]int64
	for next := range many {
		if !slices.Contains(begin, next) {
			orders = append(orders, ordersFrom(append(slices.Clone(begin), next), many)...)
		}
	}
	return orders
}

// A pairResult is two numbers with their code.
type pairResult struct{ first, second, code int64 }

func pairOf(first, second, code int64) pairResult { return pairResult{first, second, code} }

// onEquator returns spots with these longitudes.
func onEquator(lons ...int64) []impl.Spot {
	var list []impl.Spot
	for _, lon := range lons {
		list = append(list, impl.Spot{Lon: lon})
	}
	return list
}

// onMeridian returns spots with these latitudes.
func onMeridian(lats ...int64) []impl.Spot {
	var list []impl.Spot
	for _, lat := range lats {
		list = append(list, impl.Spot{Lat: lat})
	}
	return list
}

// atPole returns so many different spots at the north pole.
func atPole(many int) []impl.Spot {
	var list []impl.Spot
	for lon := range many {
		list = append(list, impl.Spot{Lat: quarter, Lon: int64(lon)})
	}
	return list
}

// drawnSpotLists returns lists with 0 to MaxRoute valid spots. In half of them, few spots occur several times, and so do distances.
func drawnSpotLists() [][]impl.Spot {
	r := rand.New(rand.NewSource(11))
	few := []impl.Spot{{}, {Lon: quarter}, {Lon: -quarter}, {Lon: -half}, {Lat: quarter}, {Lat: -quarter}, {Lat: 108000}, {Lat: -108000}, {Lat: quarter, Lon: 9}}
	all := drawnSpots()
	var lists [][]impl.Spot
	for many := range maxRoute + 1 {
		for range 6 {
			mixed, repeated := make([]impl.Spot, many), make([]impl.Spot, many)
			for i := range many {
				mixed[i], repeated[i] = all[r.Intn(len(all))], few[r.Intn(len(few))]
			}
			lists = append(lists, mixed, repeated)
		}
	}
	return lists
}

func TestLimitsOfDistances(t *testing.T) {
	same(t, "MaxRoute", impl.MaxRoute, maxRoute)
	same(t, "MaxVisits", impl.MaxVisits, maxVisits)
}

func TestExampleOfDistances(t *testing.T) {
	same(t, "DistanceOf", resultOf(impl.DistanceOf(impl.Spot{}, impl.Spot{Lat: 108000})), result{108000, impl.OK})
	for _, lon := range []int64{-half, -1, 1, 4500, half - 1} {
		same(t, "DistanceOf", resultOf(impl.DistanceOf(impl.Spot{Lon: lon}, impl.Spot{Lat: 108000, Lon: lon})), result{108000, impl.OK})
	}
}

func TestCosDistanceAndDistanceOf(t *testing.T) {
	for _, x := range []struct {
		a, b          impl.Spot
		cos, distance int64
	}{
		// A spot and itself; by the rule, the cosine of the second one would be greater than Unit.
		{impl.Spot{}, impl.Spot{}, unit, 0}, {impl.Spot{Lat: 36000}, impl.Spot{Lat: 36000}, unit, 0},
		{impl.Spot{Lat: quarter, Lon: -half}, impl.Spot{Lat: quarter, Lon: -half}, unit, 0},
		{impl.Spot{Lat: 108000}, impl.Spot{Lat: 108000}, 997991, 0},
		// Different spots with the same cosine.
		{impl.Spot{}, impl.Spot{Lon: 1}, unit, nearest}, {impl.Spot{}, impl.Spot{Lon: -1}, unit, nearest}, {impl.Spot{}, impl.Spot{Lat: 1}, unit, nearest},
		{impl.Spot{Lat: 36000}, impl.Spot{Lat: 36000, Lon: 1}, unit, nearest}, {impl.Spot{Lat: quarter - 1}, impl.Spot{Lat: quarter}, unit, nearest},
		// Opposite ones; the cosine of the second pair would be less than -Unit.
		{impl.Spot{}, impl.Spot{Lon: -half}, -unit, farthest}, {impl.Spot{Lat: 36000}, impl.Spot{Lat: -36000, Lon: -half}, -unit, farthest},
		{impl.Spot{Lat: 187230, Lon: -4500}, impl.Spot{Lat: -187230, Lon: 643500}, -996900, 631859},
		// Poles.
		{impl.Spot{Lat: quarter}, impl.Spot{Lat: -quarter}, -unit, farthest}, {impl.Spot{Lat: quarter, Lon: 77}, impl.Spot{Lat: -quarter, Lon: -99}, -unit, farthest},
		{impl.Spot{Lat: quarter}, impl.Spot{Lat: quarter, Lon: 1}, unit, nearest}, {impl.Spot{Lat: quarter}, impl.Spot{Lat: quarter, Lon: -half}, unit, nearest},
		{impl.Spot{Lat: -quarter, Lon: 5}, impl.Spot{Lat: -quarter, Lon: -5}, unit, nearest},
		{impl.Spot{Lat: quarter}, impl.Spot{Lon: 12345}, 0, quarter}, {impl.Spot{Lat: -quarter}, impl.Spot{Lon: 12345}, 0, quarter},
		{impl.Spot{Lat: quarter}, impl.Spot{Lat: 1}, 5, quarter - 1}, {impl.Spot{Lat: quarter}, impl.Spot{Lat: -1}, -5, quarter + 1},
		{impl.Spot{Lat: quarter - 1}, impl.Spot{Lat: quarter - 1, Lon: -half}, unit - 1, 354},
		// Longitudes on both sides of 2 * Quarter.
		{impl.Spot{Lon: half - 1}, impl.Spot{Lon: -half}, unit, nearest}, {impl.Spot{Lat: 162000, Lon: 600000}, impl.Spot{Lat: 162000, Lon: -600000}, 943033, 69565},
		// Cosines about 0, and one that is rounded down to -1.
		{impl.Spot{}, impl.Spot{Lon: quarter}, 0, quarter}, {impl.Spot{}, impl.Spot{Lon: -quarter}, 0, quarter},
		{impl.Spot{}, impl.Spot{Lon: quarter - 1}, 5, quarter - 1}, {impl.Spot{}, impl.Spot{Lon: quarter + 1}, -5, quarter + 1},
		{impl.Spot{Lat: 1}, impl.Spot{Lat: 1, Lon: quarter}, 0, quarter}, {impl.Spot{Lat: 1}, impl.Spot{Lat: -1, Lon: quarter}, -1, quarter + 1},
		// Others.
		{impl.Spot{}, impl.Spot{Lat: 108000}, 864865, 108000}, {impl.Spot{Lat: 108000}, impl.Spot{Lat: -108000}, 497991, 216481},
		{impl.Spot{Lat: 216000}, impl.Spot{Lat: 216000, Lon: -half}, 497991, 216481}, {impl.Spot{Lat: 100000}, impl.Spot{Lat: 108000}, 997428, 14702},
		{impl.Spot{Lat: 187230, Lon: -4500}, impl.Spot{Lat: 108000, Lon: 45000}, 909628, 87916},
		{impl.Spot{Lat: 108000, Lon: 108000}, impl.Spot{Lat: -162000, Lon: -216000}, -352941, 398164},
	} {
		for _, pair := range [][2]impl.Spot{{x.a, x.b}, {x.b, x.a}} {
			same(t, "CosDistance "+name(pair[0])+" "+name(pair[1]), resultOf(impl.CosDistance(pair[0], pair[1])), result{x.cos, impl.OK})
			same(t, "DistanceOf "+name(pair[0])+" "+name(pair[1]), resultOf(impl.DistanceOf(pair[0], pair[1])), result{x.distance, impl.OK})
		}
	}
}

func TestDistancesFollowTheRule(t *testing.T) {
	spots := drawnSpots()
	signs := map[int]int{}
	for i, a := range spots {
		for k := i % 7; k < len(spots); k += 7 {
			b := spots[k]
			cos, distance := ruleCosDistance(a, b), ruleDistance(a, b)
			same(t, "CosDistance "+name(a)+" "+name(b), resultOf(impl.CosDistance(a, b)), result{cos, impl.OK})
			same(t, "DistanceOf "+name(a)+" "+name(b), resultOf(impl.DistanceOf(a, b)), result{distance, impl.OK})
			switch {
			case cos < 0:
				signs[-1]++
			case cos > 0:
				signs[1]++
			default:
				signs[0]++
			}
		}
	}
	same(t, "signs of cosines", len(signs), 3)
}

func TestErrorsOfTwoSpots(t *testing.T) {
	for _, wrong := range wrongSpots() {
		for _, other := range append(wrongSpots(), impl.Spot{}, impl.Spot{Lat: quarter, Lon: -half}) {
			for _, pair := range [][2]impl.Spot{{wrong, other}, {other, wrong}, {wrong, wrong}} {
				what := name(pair[0]) + " " + name(pair[1])
				same(t, "CosDistance "+what, resultOf(impl.CosDistance(pair[0], pair[1])), invalid)
				same(t, "DistanceOf "+what, resultOf(impl.DistanceOf(pair[0], pair[1])), invalid)
			}
		}
	}
}

func TestNearestSpot(t *testing.T) {
	for _, x := range []struct {
		list []impl.Spot
		a    impl.Spot
		want int64
	}{
		{onMeridian(0, 108000, -108000), impl.Spot{Lat: 100000}, 1},
		{onMeridian(108000), impl.Spot{Lat: -108000}, 0},
		// Several with the same distance.
		{onMeridian(108000, -108000), impl.Spot{}, 0}, {onMeridian(200000, -108000, 108000), impl.Spot{}, 1}, {onMeridian(50, 50, 50), impl.Spot{}, 0},
		{onEquator(1, -1, half-1, -half), impl.Spot{}, 0}, {onEquator(1, half-1, -half), impl.Spot{Lon: -half + 1}, 1},
		// The spot itself, once and twice, behind others with the same cosine.
		{onEquator(1, -1, 0, 2), impl.Spot{}, 2}, {onEquator(1, 0, 0), impl.Spot{}, 1}, {atPole(12), impl.Spot{Lat: quarter, Lon: 11}, 11},
		{atPole(12), impl.Spot{Lat: quarter, Lon: 12}, 0}, {atPole(12), impl.Spot{Lat: -quarter, Lon: 3}, 0},
	} {
		same(t, fmt.Sprint("NearestSpot ", x.list, x.a), resultOf(impl.NearestSpot(x.list, x.a)), result{x.want, impl.OK})
	}
	for _, list := range drawnSpotLists() {
		if len(list) == 0 {
			continue
		}
		for _, a := range []impl.Spot{{}, {Lat: -108000, Lon: 77}, list[len(list)-1], {Lat: quarter}} {
			row := ruleRow(a, list)
			want := result{int64(slices.Index(row, slices.Min(row))), impl.OK}
			same(t, fmt.Sprint("NearestSpot ", list, a), resultOf(impl.NearestSpot(list, a)), want)
		}
	}
}

func checkWithin(t *testing.T, list []impl.Spot, a impl.Spot, most int64, want ...int64) {
	t.Helper()
	got, code := impl.SpotsWithin(list, a, most)
	same(t, "SpotsWithin", code, impl.OK)
	if !slices.Equal(got, want) {
		t.Errorf("SpotsWithin %v %v %d: got %v, want %v", list, a, most, got, want)
	}
}

func TestSpotsWithin(t *testing.T) {
	meridian := onMeridian(0, 108000, -108000)
	checkWithin(t, meridian, impl.Spot{}, 108000, 0, 1, 2)
	checkWithin(t, meridian, impl.Spot{}, 107999, 0)
	checkWithin(t, meridian, impl.Spot{}, 0, 0)
	checkWithin(t, meridian, impl.Spot{}, half, 0, 1, 2)
	checkWithin(t, meridian, impl.Spot{Lat: 108000}, 216481, 0, 1, 2)
	checkWithin(t, meridian, impl.Spot{Lat: 108000}, 216480, 0, 1)
	checkWithin(t, meridian, impl.Spot{Lon: 1}, 0)
	checkWithin(t, onEquator(0, 1, 0, -half, 0), impl.Spot{}, 0, 0, 2, 4)
	checkWithin(t, onEquator(0, 1, 0, -half, 0), impl.Spot{}, nearest-1, 0, 2, 4)
	checkWithin(t, onEquator(0, 1, 0, -half, 0), impl.Spot{}, nearest, 0, 1, 2, 4)
	checkWithin(t, onEquator(0, 1, 0, -half, 0), impl.Spot{}, farthest-1, 0, 1, 2, 4)
	checkWithin(t, onEquator(0, 1, 0, -half, 0), impl.Spot{}, farthest, 0, 1, 2, 3, 4)
	for _, most := range []int64{0, 1, half} {
		checkWithin(t, nil, impl.Spot{}, most)
		checkWithin(t, []impl.Spot{}, impl.Spot{}, most)
	}
	for _, list := range drawnSpotLists() {
		for _, a := range append([]impl.Spot{{}, {Lat: -quarter}}, list...) {
			row := ruleRow(a, list)
			for _, distance := range append(row, 0) {
				for _, most := range []int64{max(0, distance-1), distance, half} {
					var want []int64
					for i := range list {
						if row[i] <= most {
							want = append(want, int64(i))
						}
					}
					checkWithin(t, list, a, most, want...)
				}
			}
		}
	}
}

func ruleFarthest(table [][]int64) pairResult {
	best, want := int64(-1), pairResult{}
	for i := range table {
		for k := i + 1; k < len(table); k++ {
			if table[i][k] > best {
				best, want = table[i][k], pairResult{int64(i), int64(k), impl.OK}
			}
		}
	}
	return want
}

func TestFarthestPair(t *testing.T) {
	for _, x := range []struct {
		list []impl.Spot
		want pairResult
	}{
		{onMeridian(0, 108000, -108000), pairResult{1, 2, impl.OK}}, {onMeridian(0, 108000), pairResult{0, 1, impl.OK}},
		// Equal spots, and several pairs with the same distance: by the first index, and then by the second one.
		{onMeridian(5, 5), pairResult{0, 1, impl.OK}}, {onMeridian(5, 5, 5, 6), pairResult{0, 3, impl.OK}}, {onMeridian(5, 6, 6, 5), pairResult{0, 1, impl.OK}},
		{onEquator(0, quarter, -half, -quarter), pairResult{0, 2, impl.OK}}, {onEquator(0, quarter, -quarter, -half), pairResult{0, 3, impl.OK}},
		{append(atPole(1), onEquator(0, 1)...), pairResult{0, 1, impl.OK}}, {atPole(12), pairResult{0, 1, impl.OK}},
		{append(onEquator(0, 1, 2), impl.Spot{Lat: quarter}, impl.Spot{Lat: -quarter}), pairResult{3, 4, impl.OK}},
	} {
		same(t, fmt.Sprint("FarthestPair ", x.list), pairOf(impl.FarthestPair(x.list)), x.want)
	}
	for _, list := range drawnSpotLists() {
		if len(list) > 1 {
			same(t, fmt.Sprint("FarthestPair ", list), pairOf(impl.FarthestPair(list)), ruleFarthest(ruleTable(list)))
		}
	}
}

func TestRouteLength(t *testing.T) {
	for _, x := range []struct {
		list []impl.Spot
		want int64
	}{
		{nil, 0}, {[]impl.Spot{}, 0}, {onMeridian(36000), 0}, {onMeridian(36000, 36000), 0}, {onMeridian(0, 108000), 108000}, {onMeridian(0, 108000, 0), 216000},
		{onMeridian(0, 108000, -108000), 324481}, {onEquator(0, 300000, 100000, 200000), 600000}, {atPole(7), 6 * nearest}, {atPole(12), 11 * nearest},
		{onEquator(-half, 600000, -600000, half-1, -half+1), 192205}, {onEquator(0, -half, 0, -half, 0, -half, 0, -half, 0, -half, 0, -half), 11 * farthest},
	} {
		same(t, fmt.Sprint("RouteLength ", x.list), resultOf(impl.RouteLength(x.list)), result{x.want, impl.OK})
	}
	for _, list := range drawnSpotLists() {
		want := int64(0)
		for i := range max(0, len(list)-1) {
			want += ruleDistance(list[i], list[i+1])
		}
		same(t, fmt.Sprint("RouteLength ", list), resultOf(impl.RouteLength(list)), result{want, impl.OK})
	}
}

func checkShortest(t *testing.T, list []impl.Spot, length int64, want ...int64) {
	t.Helper()
	order, got, code := impl.ShortestRoute(list)
	same(t, fmt.Sprint("ShortestRoute ", list), result{got, code}, result{length, impl.OK})
	if !slices.Equal(order, want) {
		t.Errorf("ShortestRoute %v: got %v, want %v", list, order, want)
	}
}

func TestShortestRoute(t *testing.T) {
	checkShortest(t, nil, 0)
	checkShortest(t, []impl.Spot{}, 0)
	checkShortest(t, onMeridian(36000), 0, 0)
	checkShortest(t, onMeridian(0, 108000), 108000, 0, 1)
	checkShortest(t, onMeridian(36000, 36000), 0, 0, 1)
	checkShortest(t, onEquator(0, 300000, 100000, 200000), 300000, 0, 2, 3, 1)
	// The nearest next spot is not the best one.
	checkShortest(t, onEquator(100000, 300000, 0, 200000), 400000, 0, 2, 3, 1)
	checkShortest(t, []impl.Spot{
		{Lat: 187230, Lon: -4500}, {Lat: 173400, Lon: 8400}, {Lat: 150600, Lon: 45000}, {Lat: 147600, Lon: 104400},
		{Lat: -121200, Lon: 543600}, {Lat: 146400, Lon: -266400}, {Lat: -82800, Lon: -155400},
	}, 1051086, 0, 3, 2, 1, 5, 6, 4)
	// Several orders with the same length.
	checkShortest(t, onMeridian(0, 108000, -108000), 324481, 0, 1, 2)
	checkShortest(t, onMeridian(0, 108000, 0), 108000, 0, 2, 1)
	checkShortest(t, onMeridian(0, 108000, 108000, 0), 108000, 0, 3, 1, 2)
	checkShortest(t, onEquator(0, quarter, -half, -quarter), 972000, 0, 1, 2, 3)
	checkShortest(t, onEquator(0, quarter, -quarter, -half), 972000, 0, 1, 3, 2)
	checkShortest(t, onEquator(-half, 600000, -600000, half-1, -half+1), 144202, 0, 1, 3, 4, 2)
	checkShortest(t, append(onMeridian(quarter, -quarter), onEquator(0, quarter, -half, -quarter)...), 1620000, 0, 2, 1, 3, 4, 5)
	checkShortest(t, append(onMeridian(0, 108000, -108000), onEquator(108000, -108000)...), 555867, 0, 1, 3, 2, 4)
	checkShortest(t, atPole(maxVisits), 6*nearest, 0, 1, 2, 3, 4, 5, 6)
	checkShortest(t, make([]impl.Spot, maxVisits), 0, 0, 1, 2, 3, 4, 5, 6)
}

func TestShortestRouteOfDrawnLists(t *testing.T) {
	for _, list := range drawnSpotLists() {
		if len(list) == 0 || len(list) > maxVisits {
			continue
		}
		table := ruleTable(list)
		shortest, least := []int64(nil), int64(math.MaxInt64)
		for _, order := range ordersFrom([]int64{0}, int64(len(list))) {
			length := int64(0)
			for i := range order[1:] {
				length += table[order[i]][order[i+1]]
			}
			if length < least {
				shortest, least = order, length
			}
		}
		checkShortest(t, list, least, shortest...)
	}
}

func TestMiddleSpot(t *testing.T) {
	for _, x := range []struct {
		list []impl.Spot
		want pairResult
	}{
		{onMeridian(36000), pairResult{0, 0, impl.OK}}, {onMeridian(36000, 36000), pairResult{0, 0, impl.OK}}, {onMeridian(0, 108000), pairResult{0, 108000, impl.OK}},
		{onMeridian(0, 108000, -108000), pairResult{0, 108000, impl.OK}}, {onMeridian(108000, -108000, 0), pairResult{2, 108000, impl.OK}},
		// Several with the same greatest distance.
		{onEquator(0, 300000, 100000, 200000), pairResult{2, 200000, impl.OK}}, {onEquator(100000, 300000, 0, 200000), pairResult{0, 200000, impl.OK}},
		{onMeridian(108000, 0, -108000, 0), pairResult{1, 108000, impl.OK}}, {onEquator(0, quarter, -half, -quarter), pairResult{0, farthest, impl.OK}},
		{atPole(12), pairResult{0, nearest, impl.OK}}, {onEquator(-half, 600000, -600000, half-1, -half+1), pairResult{0, 48000, impl.OK}},
	} {
		same(t, fmt.Sprint("MiddleSpot ", x.list), pairOf(impl.MiddleSpot(x.list)), x.want)
	}
	for _, list := range drawnSpotLists() {
		if len(list) == 0 {
			continue
		}
		var reaches []int64
		for _, row := range ruleTable(list) {
			reaches = append(reaches, slices.Max(row))
		}
		least := slices.Min(reaches)
		same(t, fmt.Sprint("MiddleSpot ", list), pairOf(impl.MiddleSpot(list)), pairResult{int64(slices.Index(reaches, least)), least, impl.OK})
	}
}

func checkTable(t *testing.T, list []impl.Spot, want [][]int64) {
	t.Helper()
	table, code := impl.DistanceTable(list)
	same(t, "DistanceTable", code, impl.OK)
	if !slices.EqualFunc(table, want, slices.Equal) {
		t.Errorf("DistanceTable %v: got %v, want %v", list, table, want)
	}
}

func TestDistanceTable(t *testing.T) {
	checkTable(t, nil, nil)
	checkTable(t, []impl.Spot{}, nil)
	checkTable(t, onMeridian(36000), [][]int64{{0}})
	checkTable(t, onMeridian(0, 108000), [][]int64{{0, 108000}, {108000, 0}})
	checkTable(t, onMeridian(0, 108000, 0), [][]int64{{0, 108000, 0}, {108000, 0, 108000}, {0, 108000, 0}})
	checkTable(t, onMeridian(0, 108000, -108000), [][]int64{{0, 108000, 108000}, {108000, 0, 216481}, {108000, 216481, 0}})
	checkTable(t, atPole(3), [][]int64{{0, nearest, nearest}, {nearest, 0, nearest}, {nearest, nearest, 0}})
	for _, list := range drawnSpotLists() {
		checkTable(t, list, ruleTable(list))
	}
}

// A listCall is a call of a function with a list of spots; it returns the code, and all other results.
type listCall struct {
	name        string
	least, most int
	call        func(list []impl.Spot) (int64, []any)
}

// callsOfLists has a call of each function with a list; all other arguments are right.
func callsOfLists() []listCall {
	return []listCall{
		{"NearestSpot", 1, maxRoute, func(list []impl.Spot) (int64, []any) {
			index, code := impl.NearestSpot(list, impl.Spot{Lat: 77, Lon: 7})
			return code, []any{index}
		}},
		{"SpotsWithin", 0, maxRoute, func(list []impl.Spot) (int64, []any) {
			near, code := impl.SpotsWithin(list, impl.Spot{Lat: 77, Lon: 7}, half)
			return code, []any{near}
		}},
		{"FarthestPair", 2, maxRoute, func(list []impl.Spot) (int64, []any) {
			first, second, code := impl.FarthestPair(list)
			return code, []any{first, second}
		}},
		{"RouteLength", 0, maxRoute, func(list []impl.Spot) (int64, []any) {
			length, code := impl.RouteLength(list)
			return code, []any{length}
		}},
		{"ShortestRoute", 0, maxVisits, func(list []impl.Spot) (int64, []any) {
			order, length, code := impl.ShortestRoute(list)
			return code, []any{order, length}
		}},
		{"MiddleSpot", 1, maxRoute, func(list []impl.Spot) (int64, []any) {
			index, distance, code := impl.MiddleSpot(list)
			return code, []any{index, distance}
		}},
		{"DistanceTable", 0, maxRoute, func(list []impl.Spot) (int64, []any) {
			table, code := impl.DistanceTable(list)
			return code, []any{table}
		}},
	}
}

// nothing reports whether all results are zero values.
func nothing(results []any) bool {
	for _, x := range results {
		switch x := x.(type) {
		case int64:
			if x != 0 {
				return false
			}
		case []int64:
			if len(x) != 0 {
				return false
			}
		case [][]int64:
			if len(x) != 0 {
				return false
			}
		}
	}
	return true
}

// check makes the call, which has to return the code.
func (x listCall) check(t *testing.T, list []impl.Spot, want int64) {
	t.Helper()
	code, results := x.call(list)
	same(t, fmt.Sprint(x.name, " of ", len(list)), code, want)
	if code != impl.OK && !nothing(results) {
		t.Errorf("%s of %d: got %v with the code %d", x.name, len(list), results, code)
	}
}

func TestLengthsOfLists(t *testing.T) {
	for _, x := range callsOfLists() {
		for many := range maxRoute + 3 {
			want := int64(impl.OK)
			if many > x.most {
				want = impl.ErrRange
			} else if many < x.least {
				want = impl.ErrNotFound
			}
			x.check(t, make([]impl.Spot, many), want)
			x.check(t, drawnSpots()[40:40+many], want)
		}
		x.check(t, make([]impl.Spot, 100000), impl.ErrRange)
		same(t, x.name+" of nil", told(x.call(nil)), told(x.call([]impl.Spot{})))
	}
}

// A spot that is not valid is refused before a list that is too long or too short.
func TestInvalidSpotsInLists(t *testing.T) {
	for _, x := range callsOfLists() {
		for _, wrong := range wrongSpots() {
			for _, many := range []int{1, 2, maxVisits, maxVisits + 1, maxRoute, maxRoute + 1, 1000} {
				for _, at := range []int{0, many / 2, many - 1} {
					list := make([]impl.Spot, many)
					list[at] = wrong
					x.check(t, list, impl.ErrInvalid)
				}
			}
		}
		x.check(t, wrongSpots(), impl.ErrInvalid)
	}
}

func TestErrorsOfNearestSpot(t *testing.T) {
	for _, wrong := range wrongSpots() {
		for _, list := range [][]impl.Spot{nil, {}, {{}}, {wrong}, make([]impl.Spot, maxRoute), make([]impl.Spot, maxRoute+1)} {
			same(t, fmt.Sprint("NearestSpot ", len(list), " ", name(wrong)), resultOf(impl.NearestSpot(list, wrong)), invalid)
		}
	}
	same(t, "NearestSpot of too many", resultOf(impl.NearestSpot(make([]impl.Spot, maxRoute+1), impl.Spot{})), outOfRange)
	same(t, "NearestSpot of none", resultOf(impl.NearestSpot(nil, impl.Spot{})), notFound)
}

func checkNotWithin(t *testing.T, list []impl.Spot, a impl.Spot, most, want int64) {
	t.Helper()
	near, code := impl.SpotsWithin(list, a, most)
	same(t, "spots of SpotsWithin", len(near), 0)
	same(t, fmt.Sprint("SpotsWithin ", len(list), " ", name(a), " ", most), code, want)
}

func TestErrorsOfSpotsWithin(t *testing.T) {
	right := []int64{0, 1, half}
	wrong := []int64{-1, half + 1, -half, turn, math.MinInt64, math.MinInt64 + 1, math.MaxInt64 - 1, math.MaxInt64}
	for _, most := range wrong {
		for _, many := range []int{0, 1, maxRoute, maxRoute + 1, 1000} {
			checkNotWithin(t, make([]impl.Spot, many), impl.Spot{}, most, impl.ErrRange)
		}
	}
	for _, most := range append(wrong, right...) {
		checkNotWithin(t, make([]impl.Spot, maxRoute+1), impl.Spot{}, most, impl.ErrRange)
		for _, p := range wrongSpots() {
			for _, many := range []int{0, 1, maxRoute, maxRoute + 1} {
				list := make([]impl.Spot, many)
				checkNotWithin(t, list, p, most, impl.ErrInvalid)
				if many > 0 {
					list[many-1] = p
					checkNotWithin(t, list, impl.Spot{}, most, impl.ErrInvalid)
					checkNotWithin(t, list, p, most, impl.ErrInvalid)
				}
			}
		}
	}
}
