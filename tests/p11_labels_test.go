package tests

import (
	"fmt"
	"math/rand"
	"slices"
	"testing"

	"loop.example/g01055/impl"
)

func bestPlaces(t *testing.T, list []impl.Label) ([]int64, int64) {
	t.Helper()
	places, weight, code := impl.BestPlaces(list)
	same(t, fmt.Sprint("BestPlaces ", list), code, impl.OK)
	return places, weight
}

func greedyPlaces(t *testing.T, list []impl.Label) []int64 {
	t.Helper()
	places, code := impl.GreedyPlaces(list)
	same(t, fmt.Sprint("GreedyPlaces ", list), code, impl.OK)
	return places
}

// checkApart looks at places without PlacesFault as well: there is one for each label, and no number of a row is covered twice. It returns
// what is covered.
func checkApart(t *testing.T, what string, list []impl.Label, places []int64) map[[2]int64]bool {
	t.Helper()
	covered := map[[2]int64]bool{}
	if len(places) != len(list) || !areIndices(list, places) {
		t.Errorf("%s: got %v", what, places)
		return covered
	}
	for i, place := range places {
		if place < 0 {
			continue
		}
		for n := range list[i].Width {
			at := [2]int64{list[i].Row, list[i].Starts[place] + n}
			if covered[at] {
				t.Errorf("%s: got %v, which covers %v twice", what, places, at)
				return covered
			}
			covered[at] = true
		}
	}
	checkFault(t, list, -1, places...)
	return covered
}

// checkNoRoom looks for room at the Starts of labels that are left out.
func checkNoRoom(t *testing.T, what string, list []impl.Label, places []int64, covered map[[2]int64]bool) {
	t.Helper()
	for i, place := range places {
		for _, start := range list[i].Starts {
			isFree := place < 0
			for n := range list[i].Width {
				isFree = isFree && !covered[[2]int64{list[i].Row, start + n}]
			}
			if isFree {
				t.Errorf("%s: got %v, but there is room for the label %d at %d", what, places, i, start)
			}
		}
	}
}

func TestBestPlacesHaveNoOverlap(t *testing.T) {
	for _, list := range labelLists() {
		what := fmt.Sprint("BestPlaces ", list)
		places, weight := bestPlaces(t, list)
		covered := checkApart(t, what, list, places)
		// Each label has some Weight, so that none is left out for which there is room.
		checkNoRoom(t, what, list, places, covered)
		checkWeight(t, list, weight, places...)
		same(t, what+": weight", weight, ruleWeight(list, places))
	}
}

func TestGreedyPlacesHaveNoOverlap(t *testing.T) {
	for _, list := range labelLists() {
		what := fmt.Sprint("GreedyPlaces ", list)
		places := greedyPlaces(t, list)
		checkNoRoom(t, what, list, places, checkApart(t, what, list, places))
	}
}

// Important labels first often have as much weight as the best places, and often less.
func TestImportantLabelsFirstHaveNoMoreWeight(t *testing.T) {
	equal, less := 0, 0
	for _, list := range labelLists() {
		places, weight := bestPlaces(t, list)
		greedy := greedyPlaces(t, list)
		greedyWeight, code := impl.WeightPlaced(list, greedy)
		same(t, fmt.Sprint("WeightPlaced ", list, greedy), code, impl.OK)
		switch {
		case greedyWeight > weight:
			t.Errorf("BestPlaces %v: got %v with %d, but %v has %d", list, places, weight, greedy, greedyWeight)
		case greedyWeight < weight:
			less++
		default:
			equal++
			if slices.Compare(greedy, places) < 0 {
				t.Errorf("BestPlaces %v: got %v, but %v has the same weight and comes before it", list, places, greedy)
			}
		}
	}
	if equal < 100 || less < 50 {
		t.Errorf("important labels first have the same weight in %d lists, and less in %d", equal, less)
	}
	// Less than the best places, as much with other places, and as much with the same places.
	for _, x := range []struct {
		list         []impl.Label
		best, greedy int64
	}{
		{keptOut(5, 5, 5), 10, 5}, {keptOut(3, 2, 2), 4, 3}, {keptOut(2, 1, 1), 2, 2}, {keptOut(9, 1, 1), 9, 9}, {labelsOfExample(), 1, 1}, {apart(4), 10, 10},
		{[]impl.Label{tens(4, 0), tens(5, 5), tens(4, 10)}, 8, 5}, {[]impl.Label{tens(2, 0, 20), tens(1, 0)}, 3, 2}, {nil, 0, 0},
	} {
		_, weight := bestPlaces(t, x.list)
		same(t, fmt.Sprint("BestPlaces ", x.list, ": weight"), weight, x.best)
		checkWeight(t, x.list, x.greedy, greedyPlaces(t, x.list)...)
	}
}

// No places without an overlap weigh more, and none that weigh as much come first: all of short lists, and drawn ones of others, in which
// labels are placed in a drawn order.
func TestNoOtherPlacesAreBetter(t *testing.T) {
	r := rand.New(rand.NewSource(53))
	for _, list := range labelLists() {
		best, weight := bestPlaces(t, list)
		look := func(places []int64) {
			fault, code := impl.PlacesFault(list, places)
			same(t, fmt.Sprint("PlacesFault ", list, places), code, impl.OK)
			if fault >= 0 {
				return
			}
			other, _ := impl.WeightPlaced(list, places)
			if other > weight || other == weight && slices.Compare(places, best) < 0 {
				t.Errorf("BestPlaces %v: got %v with %d, but %v has %d", list, best, weight, places, other)
			}
		}
		if len(list) <= 4 {
			everyPlaces(list, look)
		}
		for range 30 {
			look(drawnPlaces(r, list))
			look(rulePlaced(list, drawnOrder(r, int64(len(list)))))
		}
	}
}

// Without one of the labels, the best places weigh no more, and less by its Weight at most.
func TestOneMoreLabelNeverWeighsLess(t *testing.T) {
	for _, list := range labelLists() {
		_, weight := bestPlaces(t, list)
		for i, l := range list {
			_, rest := bestPlaces(t, slices.Delete(slices.Clone(list), i, i+1))
			if rest > weight || rest < weight-l.Weight {
				t.Errorf("BestPlaces %v: got %d, and %d without the label %d", list, weight, rest, i)
			}
		}
	}
}

// Labels of other rows change nothing: the places of a list are those of its rows, and its weight is their sum.
func TestRowsAreOnTheirOwn(t *testing.T) {
	for _, list := range labelLists() {
		best, weight := bestPlaces(t, list)
		greedy := greedyPlaces(t, list)
		sum := int64(0)
		for row := range int64(maxRowsL) {
			var own []impl.Label
			var ownBest, ownGreedy []int64
			for i, l := range list {
				if l.Row == row {
					own, ownBest, ownGreedy = append(own, l), append(ownBest, best[i]), append(ownGreedy, greedy[i])
				}
			}
			ownWeight := ruleWeight(own, ownBest)
			sum += ownWeight
			checkBestPlaces(t, own, ownWeight, ownBest...)
			checkGreedyPlaces(t, own, ownGreedy...)
		}
		same(t, fmt.Sprint("BestPlaces ", list, ": weight"), weight, sum)
	}
}

// Labels that are all moved along, or to other rows, or that weigh more by the same factor, have the same places. From its end, a list has
// the same weight.
func TestMovedLabelsHaveTheSamePlaces(t *testing.T) {
	r := rand.New(rand.NewSource(54))
	for _, list := range labelLists() {
		best, weight := bestPlaces(t, list)
		greedy := greedyPlaces(t, list)
		least, greatest, heaviest := int64(maxAlong), int64(0), int64(1)
		for _, l := range list {
			least, greatest, heaviest = min(least, slices.Min(l.Starts)), max(greatest, slices.Max(l.Starts)), max(heaviest, l.Weight)
		}
		rows, factor := r.Perm(maxRowsL), 1+r.Int63n(maxWeightL/heaviest)
		for _, along := range []int64{-least, maxAlong - greatest, 0} {
			var moved []impl.Label
			for _, l := range list {
				other := labelIn(int64(rows[l.Row]), l.Width, factor*l.Weight)
				for _, start := range l.Starts {
					other.Starts = append(other.Starts, min(start+along, maxAlong))
				}
				moved = append(moved, other)
			}
			checkBestPlaces(t, moved, factor*weight, best...)
			checkGreedyPlaces(t, moved, greedy...)
		}
		back := slices.Clone(list)
		slices.Reverse(back)
		_, other := bestPlaces(t, back)
		same(t, fmt.Sprint("BestPlaces ", back, ": weight"), other, weight)
	}
}
