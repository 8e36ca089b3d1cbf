package tests

import (
	"fmt"
	"slices"
	"testing"

	"loop.example/g01055/impl"
)

// turned returns the list after the sphere has been turned.
func turned(t *testing.T, list []impl.Spot, angle int64) []impl.Spot {
	t.Helper()
	var others []impl.Spot
	for _, p := range list {
		q, code := impl.TurnSpot(p, angle)
		same(t, "TurnSpot", code, impl.OK)
		others = append(others, q)
	}
	return others
}

// fewAngles has turns that leave longitudes on their side of 2 * Quarter, and others that do not.
func fewAngles() []int64 {
	return []int64{-maxAngle, -turn, -half, -quarter - 1, -1, 0, 1, 4500, quarter, 500000, half - 1, half, turn + 7, maxAngle}
}

func TestDistancesAreEqualBothWays(t *testing.T) {
	spots := drawnSpots()
	for _, a := range spots {
		for _, b := range spots {
			what := name(a) + " " + name(b)
			cos, code := impl.CosDistance(a, b)
			same(t, "CosDistance "+what, resultOf(impl.CosDistance(b, a)), result{cos, code})
			distance, code := impl.DistanceOf(a, b)
			same(t, "DistanceOf "+what, resultOf(impl.DistanceOf(b, a)), result{distance, code})
			same(t, "DistanceOf "+what, code, impl.OK)
			if (distance == 0) != (a == b) || distance < 0 || distance > half {
				t.Errorf("DistanceOf %s: got %d", what, distance)
			}
			if cos < -unit || cos > unit || cos >= 0 && distance > quarter || cos < 0 && distance <= quarter {
				t.Errorf("CosDistance %s: got %d for the distance %d", what, cos, distance)
			}
		}
	}
}

func TestTablesOfDistancesAreEqualBothWays(t *testing.T) {
	for _, list := range drawnSpotLists() {
		table, code := impl.DistanceTable(list)
		same(t, "DistanceTable", code, impl.OK)
		same(t, "rows of DistanceTable", len(table), len(list))
		for i, row := range table {
			same(t, "entries of a row", len(row), len(list))
			for k, distance := range row {
				same(t, fmt.Sprint("both ways of ", list, i, k), table[k][i], distance)
				same(t, fmt.Sprint("DistanceOf ", list, i, k), resultOf(impl.DistanceOf(list[i], list[k])), result{distance, impl.OK})
			}
		}
	}
}

func TestTurnsDoNotChangeDistances(t *testing.T) {
	spots := drawnSpots()
	for _, angle := range fewAngles() {
		others := turned(t, spots, angle)
		for i, a := range spots {
			for k := i % 5; k < len(spots); k += 5 {
				b := spots[k]
				what := fmt.Sprint(name(a), " ", name(b), " turned by ", angle)
				same(t, "CosDistance "+what, resultOf(impl.CosDistance(others[i], others[k])), resultOf(impl.CosDistance(a, b)))
				same(t, "DistanceOf "+what, resultOf(impl.DistanceOf(others[i], others[k])), resultOf(impl.DistanceOf(a, b)))
			}
		}
	}
}

// All that is told of distances in a list is told of the turned list, too.
func TestTurnsDoNotChangeRoutes(t *testing.T) {
	a := impl.Spot{Lat: 36000, Lon: -4500}
	for _, list := range drawnSpotLists() {
		for _, angle := range fewAngles() {
			others := turned(t, list, angle)
			b, _ := impl.TurnSpot(a, angle)
			what := fmt.Sprint(list, " turned by ", angle)
			same(t, "NearestSpot "+what, resultOf(impl.NearestSpot(others, b)), resultOf(impl.NearestSpot(list, a)))
			same(t, "SpotsWithin "+what, told(impl.SpotsWithin(others, b, quarter)), told(impl.SpotsWithin(list, a, quarter)))
			same(t, "FarthestPair "+what, pairOf(impl.FarthestPair(others)), pairOf(impl.FarthestPair(list)))
			same(t, "RouteLength "+what, resultOf(impl.RouteLength(others)), resultOf(impl.RouteLength(list)))
			same(t, "ShortestRoute "+what, told(impl.ShortestRoute(others)), told(impl.ShortestRoute(list)))
			same(t, "MiddleSpot "+what, pairOf(impl.MiddleSpot(others)), pairOf(impl.MiddleSpot(list)))
			same(t, "DistanceTable "+what, told(impl.DistanceTable(others)), told(impl.DistanceTable(list)))
		}
	}
}

// inOrder returns the spots of the list in another order.
func inOrder(list []impl.Spot, order []int64) []impl.Spot {
	var others []impl.Spot
	for _, i := range order {
		others = append(others, list[i])
	}
	return others
}

// The told route has the told length, no order before it is as short, and none behind it is shorter; the list as it is is one of them.
func TestNoOrderIsShorterThanTheToldRoute(t *testing.T) {
	for _, list := range drawnSpotLists() {
		if len(list) == 0 || len(list) > maxVisits {
			continue
		}
		order, length, code := impl.ShortestRoute(list)
		same(t, fmt.Sprint("ShortestRoute ", list), code, impl.OK)
		orders := ordersFrom([]int64{0}, int64(len(list)))
		if !slices.ContainsFunc(orders, func(other []int64) bool { return slices.Equal(order, other) }) {
			t.Errorf("ShortestRoute %v: got %v, no order that begins with the first spot", list, order)
			continue
		}
		same(t, fmt.Sprint("RouteLength ", list, order), resultOf(impl.RouteLength(inOrder(list, order))), result{length, impl.OK})
		for _, other := range orders {
			otherLength, code := impl.RouteLength(inOrder(list, other))
			same(t, "RouteLength", code, impl.OK)
			if otherLength < length || otherLength == length && slices.Compare(other, order) < 0 {
				t.Errorf("ShortestRoute %v: got %v %d, but %v has %d", list, order, length, other, otherLength)
			}
		}
	}
}

func TestRouteOfNoSpots(t *testing.T) {
	order, length, code := impl.ShortestRoute(nil)
	same(t, "spots of ShortestRoute", len(order), 0)
	same(t, "ShortestRoute of no spots", result{length, code}, result{0, impl.OK})
	same(t, "RouteLength of no spots", resultOf(impl.RouteLength(nil)), result{0, impl.OK})
}
