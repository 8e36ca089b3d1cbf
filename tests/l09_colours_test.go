package tests

import (
	"fmt"
	"math"
	"math/rand"
	"slices"
	"testing"

	"loop.example/g01055/impl"
)

const (
	maxLands   = 10
	maxBorders = 30
	maxColours = 6
)

var (
	coloursArgument = argument{[]int64{1, 2, 3, maxColours}, []int64{0, -1, maxColours + 1, maxLands, math.MinInt64, math.MinInt64 + 1, math.MaxInt64 - 1, math.MaxInt64}}
	otherArgument   = argument{[]int64{0, 1, maxLands - 1}, []int64{-1, maxLands, maxLands + 1, -maxLands, math.MinInt64, math.MinInt64 + 1, math.MaxInt64 - 1, math.MaxInt64}}
)

// A country is a number of lands with their borders.
type country struct {
	lands int64
	list  []impl.Border
}

func (c country) String() string { return fmt.Sprint(c.lands, " ", c.list) }

// countryOf returns the country whose borders have these numbers as A and B, in turn.
func countryOf(lands int64, numbers ...int64) country {
	c := country{lands: lands}
	for pair := range slices.Chunk(numbers, 2) {
		c.list = append(c.list, impl.Border{A: pair[0], B: pair[1]})
	}
	return c
}

// meeting returns lands of which these are all neighbours; the others have none.
func meeting(lands int64, some ...int64) country {
	c := country{lands: lands}
	for i, a := range some {
		for _, b := range some[i+1:] {
			c.list = append(c.list, impl.Border{A: min(a, b), B: max(a, b)})
		}
	}
	return c
}

// ring returns lands of which these lie around a place, each next to the one before it; the others have no neighbours.
func ring(lands int64, some ...int64) country {
	c := country{lands: lands}
	for i, a := range some {
		b := some[(i+1)%len(some)]
		c.list = append(c.list, impl.Border{A: min(a, b), B: max(a, b)})
	}
	return c
}

// wheel is a ring around the land 0, which is a neighbour of all others.
func wheel(lands int64) country {
	c := ring(lands, allPoints(int(lands))[1:]...)
	for land := int64(1); land < lands; land++ {
		c.list = append(c.list, impl.Border{A: 0, B: land})
	}
	return c
}

// twoSides has all borders between lands with an even number and lands with an odd number.
func twoSides(lands int64) country {
	c := meeting(lands, allPoints(int(lands))...)
	c.list = slices.DeleteFunc(c.list, func(b impl.Border) bool { return (b.A+b.B)%2 == 0 })
	return c
}

// with returns a country with more borders.
func (c country) with(more ...impl.Border) country {
	return country{c.lands, append(slices.Clone(c.list), more...)}
}

// without returns a country without the border with an index.
func (c country) without(i int64) country {
	return country{c.lands, slices.Delete(slices.Clone(c.list), int(i), int(i+1))}
}

// borders returns the first so many of all borders that lands can have.
func borders(lands int64, many int) []impl.Border {
	return meeting(lands, allPoints(int(lands))...).list[:many]
}

// smallCountries has all countries with at most so many lands; the borders are in ascending order.
func smallCountries(most int64) []country {
	var all []country
	for lands := int64(1); lands <= most; lands++ {
		whole := meeting(lands, allPoints(int(lands))...).list
		for chosen := range 1 << len(whole) {
			c := country{lands: lands}
			for i, b := range whole {
				if chosen>>i&1 == 1 {
					c.list = append(c.list, b)
				}
			}
			all = append(all, c)
		}
	}
	return all
}

// drawnCountry has borders in an order that is always the same for equal r.
func drawnCountry(r *rand.Rand, lands int64, many int) country {
	whole := meeting(lands, allPoints(int(lands))...).list
	r.Shuffle(len(whole), func(i, k int) { whole[i], whole[k] = whole[k], whole[i] })
	return country{lands, whole[:min(many, len(whole), maxBorders)]}
}

// bigCountries has countries with up to MaxLands lands, which need one to eight colours.
func bigCountries() []country {
	all := []country{
		countryOf(1), countryOf(maxLands), countryOf(maxLands, 0, 9), countryOf(maxLands, 8, 9), countryOf(maxLands, 0, 1), countryOf(maxLands, 4, 5),
		{maxLands, borders(maxLands, maxBorders)}, {9, borders(9, maxBorders)}, wheel(maxLands), wheel(9), wheel(4), twoSides(maxLands), twoSides(9),
		ring(maxLands, allPoints(maxLands)...), ring(9, allPoints(9)...), ring(maxLands, 0, 9, 1, 8, 2, 7, 3, 6, 4, 5), ring(maxLands, 1, 3, 5, 7, 8), ring(7, 6, 4, 2, 1, 3, 5),
		// The lands without neighbours are the first ones, the last ones, and some in the middle.
		meeting(8, allPoints(8)...), meeting(maxLands, 2, 3, 4, 5, 6, 7, 8, 9), meeting(maxLands, 0, 1, 2, 3, 4, 5, 6, 7), meeting(maxLands, 9, 8, 7, 5, 4, 1, 0),
		meeting(maxLands, 3, 4, 5, 6, 7, 8, 9), meeting(maxLands, 4, 5, 6, 7, 8, 9), meeting(maxLands, 1, 2, 4, 5, 7, 8), meeting(maxLands, 0, 9, 5), meeting(7, allPoints(6)...),
		// MaxBorders of them, so that eight colours are needed.
		meeting(maxLands, 9, 8, 7, 6, 5, 4, 3, 2).with(countryOf(0, 0, 1, 0, 2).list...),
		// Only the lands 0 and 3 are no neighbours.
		meeting(5, 0, 1, 2, 4).with(countryOf(0, 1, 3, 2, 3, 3, 4).list...),
		// Two rings, each land of the one beside a land of the other.
		ring(maxLands, 0, 1, 2, 3, 4).with(ring(0, 5, 7, 9, 6, 8).list...).with(countryOf(0, 0, 5, 1, 6, 2, 7, 3, 8, 4, 9).list...),
	}
	r := rand.New(rand.NewSource(30))
	for _, lands := range []int64{5, 6, 7, 8, 9, maxLands, maxLands, maxLands} {
		for _, many := range []int{3, 7, 10, 14, 18, 22, 26, maxBorders} {
			all = append(all, drawnCountry(r, lands, many))
		}
	}
	return all
}

func allCountries() []country { return append(smallCountries(4), bigCountries()...) }

// wrongCountries have a number of lands or borders that are not valid.
func wrongCountries() []country {
	var all []country
	for _, lands := range []int64{0, -1, maxLands + 1, 2 * maxLands, -maxLands, 1 << 32, math.MinInt64, math.MinInt64 + 1, math.MaxInt64 - 1, math.MaxInt64} {
		all = append(all, countryOf(lands), countryOf(lands, 0, 1), countryOf(lands, 1, 0))
	}
	for _, lands := range []int64{1, 2, 3, 5, maxLands} {
		last := lands - 1
		for _, wrong := range [][2]int64{
			{0, 0}, {last, last}, {last, 0}, {1, 0}, {2, 1}, {-1, 0}, {-1, last}, {-1, -1}, {-2, -1}, {0, lands}, {last, lands}, {lands, lands}, {lands, 0}, {lands, lands + 1},
			{math.MinInt64, 0}, {math.MinInt64, math.MaxInt64}, {math.MaxInt64, math.MinInt64}, {0, math.MaxInt64}, {math.MinInt64, math.MinInt64}, {math.MaxInt64, math.MaxInt64}, {0, math.MinInt64}, {0, -1}, {1 << 32, 1<<32 + 1},
		} {
			// The wrong border is the first one, one in the middle, and the last one.
			right := borders(lands, min(int(lands*(lands-1)/2), 6))
			for at := range len(right) + 1 {
				all = append(all, country{lands, slices.Insert(slices.Clone(right), at, impl.Border{A: wrong[0], B: wrong[1]})})
			}
		}
	}
	return slices.Concat(all, countriesWithOneTwice(), []country{
		{maxLands, borders(maxLands, maxBorders+1)}, {maxLands, borders(maxLands, 45)}, {9, borders(9, maxBorders+1)}, {maxLands, make([]impl.Border, 100000)},
		{math.MaxInt64, borders(maxLands, maxBorders+1)}, {1, borders(2, 1)}, {9, borders(maxLands, maxBorders)}, {2, borders(3, 2)},
	})
}

// countriesWithOneTwice have one border at two places, for all pairs of places.
func countriesWithOneTwice() []country {
	var all []country
	for _, lands := range []int64{2, 3, 5, maxLands} {
		right := borders(lands, min(int(lands*(lands-1)/2), maxBorders-1))
		for i, b := range right {
			for at := range len(right) + 1 {
				all = append(all, country{lands, slices.Insert(slices.Clone(right), at, b)})
			}
			all = append(all, country{lands, []impl.Border{b, b}}, country{lands, []impl.Border{b, right[(i+1)%len(right)], b}})
		}
	}
	return all
}

// ruleColours gives out all right colours from 0 to many - 1 that begin with some, number by number.
func (c country) ruleColours(begin []int64, many int64, yield func([]int64) bool) bool {
	if int64(len(begin)) == c.lands {
		return yield(begin)
	}
	for colour := range many {
		next := append(slices.Clone(begin), colour)
		clash := slices.ContainsFunc(c.list, func(b impl.Border) bool { return int(b.B) == len(begin) && next[b.A] == colour })
		if !clash && !c.ruleColours(next, many, yield) {
			return false
		}
	}
	return true
}

// ruleFirst returns nothing if there are no right colours.
func (c country) ruleFirst(many int64) []int64 {
	var first []int64
	c.ruleColours(nil, many, func(colours []int64) bool {
		first = colours
		return false
	})
	return first
}

// ruleWays takes one colour after the other, and gives it to any lands that have none yet and of which no two are neighbours.
func (c country) ruleWays(many int64) int64 {
	all := 1<<c.lands - 1
	apart := make([]bool, all+1)
	for set := range apart {
		apart[set] = !slices.ContainsFunc(c.list, func(b impl.Border) bool { return set>>b.A&1 == 1 && set>>b.B&1 == 1 })
	}
	ways := make([]int64, all+1)
	ways[0] = 1
	for range many {
		for set := all; set > 0; set-- {
			for part := set; part > 0; part = (part - 1) & set {
				if apart[part] {
					ways[set] += ways[set&^part]
				}
			}
		}
	}
	return ways[all]
}

func (c country) ruleFewest() int64 {
	for many := int64(1); ; many++ {
		if c.ruleWays(many) > 0 {
			return many
		}
	}
}

// ruleHard takes each border away.
func (c country) ruleHard() []int64 {
	var hard []int64
	fewest := c.ruleFewest()
	for i := range c.list {
		if c.without(int64(i)).ruleFewest() < fewest {
			hard = append(hard, int64(i))
		}
	}
	return hard
}

// ruleGreedy goes through all colours from 0 on for each land.
func (c country) ruleGreedy(order []int64) []int64 {
	colours := slices.Repeat([]int64{-1}, int(c.lands))
	for _, land := range order {
		for colour := int64(0); colours[land] < 0; colour++ {
			if !slices.ContainsFunc(c.list, func(b impl.Border) bool {
				return b.A == land && colours[b.B] == colour || b.B == land && colours[b.A] == colour
			}) {
				colours[land] = colour
			}
		}
	}
	return colours
}

// ruleSwap swaps the colour of a land, and then that of each neighbour with the colour that the land has got.
func (c country) ruleSwap(colours []int64, land, other int64) []int64 {
	swapped := slices.Clone(colours)
	var swap func(land, other int64)
	swap = func(land, other int64) {
		own := swapped[land]
		swapped[land] = other
		for _, b := range c.list {
			for _, pair := range [][2]int64{{b.A, b.B}, {b.B, b.A}} {
				if pair[0] == land && swapped[pair[1]] == other && colours[pair[1]] == other {
					swap(pair[1], own)
				}
			}
		}
	}
	swap(land, other)
	return swapped
}

func checkNeighbours(t *testing.T, c country, land int64, want ...int64) {
	t.Helper()
	neighbours, code := impl.NeighboursOf(c.lands, c.list, land)
	checkList(t, fmt.Sprint("NeighboursOf ", c, land), neighbours, code, want...)
}

func checkClash(t *testing.T, c country, want int64, colours ...int64) {
	t.Helper()
	same(t, fmt.Sprint("FirstClash ", c, colours), resultOf(impl.FirstClash(c.lands, c.list, colours)), result{want, impl.OK})
}

func checkFewestColours(t *testing.T, c country, want int64) {
	t.Helper()
	same(t, fmt.Sprint("FewestColours ", c), resultOf(impl.FewestColours(c.lands, c.list)), result{want, impl.OK})
}

func checkFirst(t *testing.T, c country, many int64, want ...int64) {
	t.Helper()
	colours, code := impl.FirstColours(c.lands, c.list, many)
	checkList(t, fmt.Sprint("FirstColours ", c, many), colours, code, want...)
}

func checkNoColours(t *testing.T, c country, many int64) {
	t.Helper()
	checkRefused(t, fmt.Sprint("FirstColours ", c, many), resultsOf(impl.FirstColours(c.lands, c.list, many)), impl.ErrNotFound)
}

func checkGreedy(t *testing.T, c country, order []int64, want ...int64) {
	t.Helper()
	colours, code := impl.GreedyColours(c.lands, c.list, order)
	checkList(t, fmt.Sprint("GreedyColours ", c, order), colours, code, want...)
}

func checkWays(t *testing.T, c country, many, want int64) {
	t.Helper()
	same(t, fmt.Sprint("CountColours ", c, many), resultOf(impl.CountColours(c.lands, c.list, many)), result{want, impl.OK})
}

func checkSwapped(t *testing.T, c country, colours []int64, land, other int64, want ...int64) {
	t.Helper()
	swapped, code := impl.SwapColours(c.lands, c.list, colours, land, other)
	checkList(t, fmt.Sprint("SwapColours ", c, colours, land, other), swapped, code, want...)
}

func checkHard(t *testing.T, c country, want ...int64) {
	t.Helper()
	hard, code := impl.HardBorders(c.lands, c.list)
	checkList(t, fmt.Sprint("HardBorders ", c), hard, code, want...)
}

func TestLimitsOfColours(t *testing.T) {
	same(t, "MaxLands", impl.MaxLands, maxLands)
	same(t, "MaxBorders", impl.MaxBorders, maxBorders)
	same(t, "MaxColours", impl.MaxColours, maxColours)
}

func TestExampleOfColours(t *testing.T) {
	c := countryOf(3, 0, 1, 0, 2, 1, 2)
	checkFewestColours(t, c, 3)
	checkHard(t, c, 0, 1, 2)
}

func TestValidBorders(t *testing.T) {
	for _, c := range append(allCountries(), smallCountries(5)...) {
		same(t, fmt.Sprint("ValidBorders ", c), impl.ValidBorders(c.lands, c.list), true)
	}
	for _, c := range wrongCountries() {
		same(t, fmt.Sprint("ValidBorders ", c.lands, " ", c.list[:min(len(c.list), 50)]), impl.ValidBorders(c.lands, c.list), false)
	}
	for lands := int64(-2); lands <= maxLands+2; lands++ {
		isRight := lands >= 1 && lands <= maxLands
		same(t, fmt.Sprint("ValidBorders without borders ", lands), impl.ValidBorders(lands, nil), isRight)
		same(t, fmt.Sprint("ValidBorders without borders ", lands), impl.ValidBorders(lands, []impl.Border{}), isRight)
		for a := int64(-2); a <= maxLands+2; a++ {
			for b := int64(-2); b <= maxLands+2; b++ {
				c := countryOf(lands, a, b)
				same(t, fmt.Sprint("ValidBorders ", c), impl.ValidBorders(lands, c.list), isRight && a >= 0 && a < b && b < lands)
			}
		}
	}
	for many := range 46 {
		same(t, fmt.Sprint("ValidBorders of ", many), impl.ValidBorders(maxLands, borders(maxLands, many)), many <= maxBorders)
	}
}

func TestNeighboursOf(t *testing.T) {
	for _, c := range allCountries() {
		for land := range c.lands {
			var want []int64
			for other := range c.lands {
				if slices.Contains(c.list, impl.Border{A: min(land, other), B: max(land, other)}) {
					want = append(want, other)
				}
			}
			checkNeighbours(t, c, land, want...)
		}
	}
	checkNeighbours(t, countryOf(1), 0)
	checkNeighbours(t, countryOf(maxLands), 0)
	checkNeighbours(t, countryOf(maxLands), 9)
	// The borders are not in ascending order.
	c := countryOf(6, 3, 4, 1, 3, 2, 3, 0, 4)
	checkNeighbours(t, c, 3, 1, 2, 4)
	checkNeighbours(t, c, 4, 0, 3)
	checkNeighbours(t, c, 0, 4)
	checkNeighbours(t, c, 5)
	checkNeighbours(t, wheel(maxLands), 0, 1, 2, 3, 4, 5, 6, 7, 8, 9)
	checkNeighbours(t, wheel(maxLands), 9, 0, 1, 8)
}

func TestFirstClash(t *testing.T) {
	checkClash(t, countryOf(1), -1, 0)
	checkClash(t, countryOf(1), -1, maxLands-1)
	checkClash(t, countryOf(maxLands), -1, make([]int64, maxLands)...)
	c := countryOf(4, 2, 3, 0, 1, 1, 2)
	checkClash(t, c, 0, 0, 0, 0, 0)
	checkClash(t, c, 0, 0, 0, 1, 1)
	checkClash(t, c, 1, 0, 0, 1, 2)
	checkClash(t, c, 1, 5, 5, 5, 2)
	checkClash(t, c, 2, 0, 9, 9, 0)
	checkClash(t, c, -1, 0, 9, 0, 9)
	checkClash(t, c, -1, 3, 0, 3, 0)
	// Land 3 has the colour of land 0, but they are no neighbours.
	checkClash(t, c, -1, 1, 2, 3, 1)
	checkClash(t, countryOf(2, 0, 1), 0, maxLands-1, maxLands-1)
	r := rand.New(rand.NewSource(31))
	for _, c := range allCountries() {
		for range 20 {
			colours := make([]int64, c.lands)
			for land := range colours {
				colours[land] = r.Int63n(maxLands)
			}
			want := int64(-1)
			for i, b := range slices.Backward(c.list) {
				if colours[b.A] == colours[b.B] {
					want = int64(i)
				}
			}
			checkClash(t, c, want, colours...)
		}
	}
}

func TestFewestColours(t *testing.T) {
	for lands := int64(1); lands <= maxLands; lands++ {
		checkFewestColours(t, countryOf(lands), 1)
		if lands > 1 {
			checkFewestColours(t, countryOf(lands, 0, lands-1), 2)
			checkFewestColours(t, twoSides(lands), 2)
		}
		if lands > 2 {
			checkFewestColours(t, ring(lands, allPoints(int(lands))...), 2+lands%2)
		}
		if lands > 3 {
			checkFewestColours(t, wheel(lands), 4-lands%2)
		}
		for many := int64(2); many <= min(lands, 8); many++ {
			// All of the last ones, and of the first ones, are neighbours.
			checkFewestColours(t, meeting(lands, allPoints(int(lands))[lands-many:]...), many)
			checkFewestColours(t, meeting(lands, allPoints(int(many))...), many)
		}
	}
	for _, c := range append(allCountries(), smallCountries(5)...) {
		checkFewestColours(t, c, c.ruleFewest())
	}
}

func TestFirstColours(t *testing.T) {
	checkFirst(t, countryOf(1), 1, 0)
	checkFirst(t, countryOf(1), maxColours, 0)
	checkFirst(t, countryOf(maxLands), 1, make([]int64, maxLands)...)
	checkFirst(t, countryOf(maxLands), maxColours, make([]int64, maxLands)...)
	checkFirst(t, countryOf(3, 0, 1, 0, 2, 1, 2), 3, 0, 1, 2)
	checkNoColours(t, countryOf(3, 0, 1, 0, 2, 1, 2), 2)
	checkNoColours(t, countryOf(maxLands, 8, 9), 1)
	checkFirst(t, countryOf(maxLands, 8, 9), 2, 0, 0, 0, 0, 0, 0, 0, 0, 0, 1)
	checkFirst(t, ring(5, 0, 1, 2, 3, 4), 3, 0, 1, 0, 1, 2)
	checkNoColours(t, ring(5, 0, 1, 2, 3, 4), 2)
	checkFirst(t, ring(6, 0, 1, 2, 3, 4, 5), 2, 0, 1, 0, 1, 0, 1)
	checkNoColours(t, ring(6, 0, 1, 2, 3, 4, 5), 1)
	checkFirst(t, meeting(maxLands, 4, 5, 6, 7, 8, 9), maxColours, 0, 0, 0, 0, 0, 1, 2, 3, 4, 5)
	checkFirst(t, meeting(maxLands, 0, 1, 2, 3, 4, 5), maxColours, 0, 1, 2, 3, 4, 5, 0, 0, 0, 0)
	checkNoColours(t, meeting(maxLands, 3, 4, 5, 6, 7, 8, 9), maxColours)
	checkNoColours(t, meeting(maxLands, 2, 3, 4, 5, 6, 7, 8, 9), maxColours)
	// Land 1 may have the colour of land 0 only if there are more colours than needed.
	c := countryOf(4, 0, 2, 1, 3, 2, 3)
	checkFirst(t, c, 2, 0, 1, 1, 0)
	checkFirst(t, c, 3, 0, 0, 1, 2)
	checkFirst(t, c, maxColours, 0, 0, 1, 2)
	for _, c := range append(allCountries(), smallCountries(5)...) {
		for many := int64(1); many <= maxColours; many++ {
			if first := c.ruleFirst(many); first != nil {
				checkFirst(t, c, many, first...)
			} else {
				checkNoColours(t, c, many)
			}
		}
	}
}

func TestGreedyColours(t *testing.T) {
	checkGreedy(t, countryOf(1), []int64{0}, 0)
	checkGreedy(t, countryOf(maxLands), []int64{9, 8, 7, 6, 5, 4, 3, 2, 1, 0}, make([]int64, maxLands)...)
	c := countryOf(3, 0, 1, 0, 2, 1, 2)
	checkGreedy(t, c, []int64{2, 1, 0}, 2, 1, 0)
	checkGreedy(t, c, []int64{1, 2, 0}, 2, 0, 1)
	checkGreedy(t, c, []int64{0, 1, 2}, 0, 1, 2)
	// The least colour that is free lies between two others.
	checkGreedy(t, countryOf(4, 0, 1, 0, 2, 0, 3, 1, 2, 2, 3), []int64{0, 1, 2, 3}, 0, 1, 2, 1)
	// In this order, more colours are needed than the fewest.
	c = countryOf(4, 0, 2, 1, 3, 2, 3)
	checkGreedy(t, c, []int64{0, 1, 2, 3}, 0, 0, 1, 2)
	checkGreedy(t, c, []int64{0, 2, 3, 1}, 0, 1, 1, 0)
	checkGreedy(t, meeting(8, allPoints(8)...), []int64{7, 6, 5, 4, 3, 2, 1, 0}, 7, 6, 5, 4, 3, 2, 1, 0)
	for _, c := range smallCountries(4) {
		for _, order := range ordersFrom(nil, c.lands) {
			checkGreedy(t, c, order, c.ruleGreedy(order)...)
		}
	}
	r := rand.New(rand.NewSource(32))
	for _, c := range bigCountries() {
		for range 20 {
			order := drawnOrder(r, c.lands)
			checkGreedy(t, c, order, c.ruleGreedy(order)...)
		}
	}
}

func drawnOrder(r *rand.Rand, lands int64) []int64 {
	order := allPoints(int(lands))
	r.Shuffle(len(order), func(i, k int) { order[i], order[k] = order[k], order[i] })
	return order
}

func TestCountColours(t *testing.T) {
	power := func(n, exponent int64) int64 {
		product := int64(1)
		for range exponent {
			product *= n
		}
		return product
	}
	for lands := int64(1); lands <= maxLands; lands++ {
		for many := int64(1); many <= maxColours; many++ {
			checkWays(t, countryOf(lands), many, power(many, lands))
			if lands > 1 {
				checkWays(t, countryOf(lands, 0, lands-1), many, many*(many-1)*power(many, lands-2))
			}
			if lands > 2 {
				// Around a ring, by the known formula.
				checkWays(t, ring(lands, allPoints(int(lands))...), many, power(many-1, lands)+power(-1, lands)*(many-1))
			}
		}
	}
	for many, want := range map[int64]int64{1: 0, 2: 0, 3: 6, 4: 24, 5: 60, maxColours: 120} {
		checkWays(t, meeting(3, 0, 1, 2), many, want)
	}
	checkWays(t, countryOf(maxLands), maxColours, 60466176)
	checkWays(t, meeting(6, allPoints(6)...), maxColours, 720)
	checkWays(t, meeting(6, allPoints(6)...), maxColours-1, 0)
	checkWays(t, meeting(maxLands, 4, 5, 6, 7, 8, 9), maxColours, 720*6*6*6*6)
	checkWays(t, meeting(maxLands, 3, 4, 5, 6, 7, 8, 9), maxColours, 0)
	for _, c := range bigCountries() {
		for many := int64(1); many <= maxColours; many++ {
			checkWays(t, c, many, c.ruleWays(many))
		}
	}
	for _, c := range smallCountries(4) {
		for many := int64(1); many <= maxColours; many++ {
			ways := int64(0)
			c.ruleColours(nil, many, func([]int64) bool {
				ways++
				return true
			})
			checkWays(t, c, many, ways)
		}
	}
}

func TestSwapColours(t *testing.T) {
	// One land only: it has no neighbours, or none with the other colour.
	checkSwapped(t, countryOf(1), []int64{0}, 0, maxLands-1, maxLands-1)
	checkSwapped(t, countryOf(1), []int64{maxLands - 1}, 0, 0, 0)
	checkSwapped(t, countryOf(3, 0, 1), []int64{0, 1, 0}, 2, 1, 0, 1, 1)
	checkSwapped(t, countryOf(3, 1, 2), []int64{0, 1, 0}, 0, 1, 1, 1, 0)
	checkSwapped(t, countryOf(3, 0, 1, 0, 2, 1, 2), []int64{0, 1, 2}, 0, 1, 1, 0, 2)
	checkSwapped(t, countryOf(3, 0, 1, 0, 2, 1, 2), []int64{0, 1, 2}, 2, 5, 0, 1, 5)
	// All lands.
	row := countryOf(4, 0, 1, 1, 2, 2, 3)
	checkSwapped(t, row, []int64{0, 1, 0, 1}, 0, 1, 1, 0, 1, 0)
	checkSwapped(t, row, []int64{0, 1, 0, 1}, 3, 0, 1, 0, 1, 0)
	checkSwapped(t, row, []int64{9, 4, 9, 4}, 2, 4, 4, 9, 4, 9)
	even := ring(maxLands, 0, 9, 1, 8, 2, 7, 3, 6, 4, 5)
	checkSwapped(t, even, []int64{0, 0, 0, 0, 0, 1, 1, 1, 1, 1}, 7, 0, 1, 1, 1, 1, 1, 0, 0, 0, 0, 0)
	checkSwapped(t, even, []int64{0, 0, 0, 0, 0, 1, 1, 1, 1, 1}, 7, 2, 0, 0, 0, 0, 0, 1, 1, 2, 1, 1)
	// A third colour stands between.
	checkSwapped(t, row, []int64{0, 1, 2, 0}, 0, 1, 1, 0, 2, 0)
	checkSwapped(t, row, []int64{0, 1, 2, 0}, 3, 1, 0, 1, 2, 1)
	checkSwapped(t, row, []int64{0, 1, 2, 0}, 3, 2, 0, 1, 0, 2)
	checkSwapped(t, row, []int64{0, 1, 2, 0}, 1, 2, 0, 2, 1, 0)
	// A chain that goes to lesser and to greater lands in turn.
	checkSwapped(t, countryOf(7, 2, 5, 0, 5, 0, 3, 3, 6, 1, 6, 1, 4), []int64{0, 1, 0, 1, 0, 1, 0}, 4, 1, 1, 0, 1, 0, 1, 0, 1)
	checkSwapped(t, countryOf(7, 2, 5, 0, 5, 0, 3, 3, 6, 1, 6, 1, 4), []int64{0, 0, 0, 1, 1, 1, 2}, 2, 1, 1, 0, 1, 0, 1, 0, 2)
	r := rand.New(rand.NewSource(33))
	for _, c := range allCountries() {
		for range 4 {
			colours := c.ruleGreedy(drawnOrder(r, c.lands))
			for land := range c.lands {
				for other := range int64(maxLands) {
					if other != colours[land] {
						checkSwapped(t, c, colours, land, other, c.ruleSwap(colours, land, other)...)
					}
				}
			}
		}
	}
}

func TestHardBorders(t *testing.T) {
	checkHard(t, countryOf(1))
	checkHard(t, countryOf(maxLands))
	checkHard(t, countryOf(2, 0, 1), 0)
	checkHard(t, countryOf(maxLands, 0, 9), 0)
	checkHard(t, countryOf(maxLands, 3, 7), 0)
	checkHard(t, countryOf(4, 0, 1, 2, 3))
	checkHard(t, countryOf(3, 0, 1, 1, 2))
	checkHard(t, ring(5, 0, 1, 2, 3, 4), 0, 1, 2, 3, 4)
	checkHard(t, ring(9, allPoints(9)...), allPoints(9)...)
	checkHard(t, ring(maxLands, 1, 3, 5, 7, 8), 0, 1, 2, 3, 4)
	checkHard(t, ring(4, 0, 1, 2, 3))
	checkHard(t, ring(maxLands, allPoints(maxLands)...))
	// One border that two triangles share: the first one, one in the middle, and the last one.
	checkHard(t, countryOf(4, 0, 1, 0, 2, 1, 2, 0, 3, 1, 3), 0)
	checkHard(t, countryOf(4, 0, 2, 1, 2, 0, 1, 0, 3, 1, 3), 2)
	checkHard(t, countryOf(4, 0, 2, 1, 2, 0, 3, 1, 3, 0, 1), 4)
	checkHard(t, countryOf(5, 1, 3, 2, 3, 1, 4, 2, 4, 1, 2), 4)
	// A border beside a triangle, and another triangle.
	checkHard(t, countryOf(5, 0, 1, 1, 2, 3, 4, 0, 2), 0, 1, 3)
	checkHard(t, countryOf(6, 0, 1, 1, 2, 3, 4, 0, 2, 3, 5, 4, 5))
	for many := int64(2); many <= 8; many++ {
		c := meeting(many, allPoints(int(many))...)
		checkHard(t, c, allPoints(len(c.list))...)
		c = meeting(maxLands, allPoints(maxLands)[maxLands-many:]...)
		checkHard(t, c, allPoints(len(c.list))...)
	}
	for _, c := range smallCountries(5) {
		checkHard(t, c, c.ruleHard()...)
	}
	for _, c := range bigCountries() {
		checkHard(t, c, c.ruleHard()...)
	}
}

// A countryCall is a call of a function with lands and borders; it returns all results, the code as the last one.
type countryCall struct {
	name string
	call func(c country) []any
}

// callsOfCountries has calls of all functions that refuse borders that are not valid; some of their other arguments are wrong.
func callsOfCountries() []countryCall {
	calls := []countryCall{
		{"FewestColours", func(c country) []any { return resultsOf(impl.FewestColours(c.lands, c.list)) }},
		{"HardBorders", func(c country) []any { return resultsOf(impl.HardBorders(c.lands, c.list)) }},
	}
	for _, n := range []int64{math.MinInt64, -1, 0, 1, 2, maxColours, maxColours + 1, maxLands - 1, maxLands, math.MaxInt64} {
		calls = append(calls,
			countryCall{fmt.Sprint("NeighboursOf ", n), func(c country) []any { return resultsOf(impl.NeighboursOf(c.lands, c.list, n)) }},
			countryCall{fmt.Sprint("FirstColours ", n), func(c country) []any { return resultsOf(impl.FirstColours(c.lands, c.list, n)) }},
			countryCall{fmt.Sprint("CountColours ", n), func(c country) []any { return resultsOf(impl.CountColours(c.lands, c.list, n)) }},
			countryCall{fmt.Sprint("SwapColours of ", n), func(c country) []any { return resultsOf(impl.SwapColours(c.lands, c.list, []int64{0, 1, 2}, n, 1)) }},
			countryCall{fmt.Sprint("SwapColours to ", n), func(c country) []any { return resultsOf(impl.SwapColours(c.lands, c.list, nil, 0, n)) }})
	}
	for i, numbers := range [][]int64{nil, {0}, {0, 1}, {0, 1, 2}, {2, 1, 0}, {0, 0, 0}, {-1}, {math.MinInt64, math.MaxInt64}, {1, 0}, allPoints(5), allPoints(maxLands), allPoints(maxLands + 1), make([]int64, 5), allPoints(1000)} {
		calls = append(calls,
			countryCall{fmt.Sprint("FirstClash ", i), func(c country) []any { return resultsOf(impl.FirstClash(c.lands, c.list, numbers)) }},
			countryCall{fmt.Sprint("GreedyColours ", i), func(c country) []any { return resultsOf(impl.GreedyColours(c.lands, c.list, numbers)) }},
			countryCall{fmt.Sprint("SwapColours ", i), func(c country) []any { return resultsOf(impl.SwapColours(c.lands, c.list, numbers, 0, 0)) }})
	}
	return calls
}

// Borders that are not valid are refused before any other argument.
func TestWrongBordersAreRefused(t *testing.T) {
	for _, x := range callsOfCountries() {
		for _, c := range wrongCountries() {
			checkRefused(t, x.name, x.call(c), impl.ErrInvalid)
		}
	}
}

// fewCountries has some for errors of other arguments.
func fewCountries() []country {
	return []country{
		countryOf(1), countryOf(2), countryOf(2, 0, 1), meeting(3, 0, 1, 2), countryOf(5, 3, 4), ring(6, 1, 3, 5, 4), countryOf(9), meeting(maxLands, 0, 2, 9),
		{maxLands, borders(maxLands, maxBorders)},
	}
}

// wrongLands are no lands of so many.
func wrongLands(lands int64) []int64 {
	return []int64{-1, lands, lands + 1, -lands, 64, 1 << 32, math.MinInt64, math.MinInt64 + 1, math.MaxInt64 - 1, math.MaxInt64}
}

// wrongColours are not one for each of so many lands.
func wrongColours(lands int64) [][]int64 {
	many := int(lands)
	lists := [][]int64{nil, {}, make([]int64, many-1), make([]int64, many+1), allPoints(many + 1), make([]int64, 2*many), make([]int64, 100000), {-1}, {math.MinInt64, math.MaxInt64, 0}}
	for _, wrong := range otherArgument.wrong {
		for at := range many {
			colours := make([]int64, many)
			colours[at] = wrong
			lists = append(lists, colours, append(slices.Clone(colours), 0))
		}
	}
	return lists
}

// wrongOrders do not have each of so many lands just once.
func wrongOrders(lands int64) [][]int64 {
	many := int(lands)
	right := allPoints(many)
	lists := [][]int64{nil, {}, right[1:], right[:many-1], allPoints(many + 1), append(allPoints(many), 0), append([]int64{lands - 1}, right...), make([]int64, 100000), allPoints(100000), make([]int64, many+1)}
	for at := range many {
		for _, wrong := range append(wrongLands(lands), right...) {
			order := slices.Clone(right)
			order[at] = wrong
			if wrong != right[at] {
				lists = append(lists, order)
			}
			lists = append(lists, slices.Insert(slices.Clone(right), at, wrong))
		}
	}
	return lists
}

func TestErrorsOfNeighboursOf(t *testing.T) {
	for _, c := range fewCountries() {
		for _, land := range wrongLands(c.lands) {
			checkRefused(t, fmt.Sprint("NeighboursOf ", c, land), resultsOf(impl.NeighboursOf(c.lands, c.list, land)), impl.ErrRange)
		}
	}
}

func TestErrorsOfFirstClash(t *testing.T) {
	for _, c := range fewCountries() {
		for _, colours := range wrongColours(c.lands) {
			what := fmt.Sprint("FirstClash ", c, colours[:min(len(colours), 30)])
			checkRefused(t, what, resultsOf(impl.FirstClash(c.lands, c.list, colours)), impl.ErrRange)
		}
	}
}

func TestErrorsOfNumbersOfColours(t *testing.T) {
	for _, c := range append(fewCountries(), bigCountries()...) {
		for _, many := range coloursArgument.wrong {
			checkRefused(t, fmt.Sprint("FirstColours ", c, many), resultsOf(impl.FirstColours(c.lands, c.list, many)), impl.ErrRange)
			checkRefused(t, fmt.Sprint("CountColours ", c, many), resultsOf(impl.CountColours(c.lands, c.list, many)), impl.ErrRange)
		}
	}
}

func TestErrorsOfGreedyColours(t *testing.T) {
	for _, c := range fewCountries() {
		for _, order := range wrongOrders(c.lands) {
			what := fmt.Sprint("GreedyColours ", c, order[:min(len(order), 30)])
			checkRefused(t, what, resultsOf(impl.GreedyColours(c.lands, c.list, order)), impl.ErrRange)
		}
	}
}

// Colours out of their limits are refused before those that are not right, and these before other as the colour of the land.
func TestErrorsOfSwapColours(t *testing.T) {
	for _, c := range fewCountries() {
		right, same := c.ruleFirst(maxLands), make([]int64, c.lands)
		refused := func(want int64, colours []int64, land, other int64) {
			t.Helper()
			what := fmt.Sprint("SwapColours ", c, colours[:min(len(colours), 30)], land, other)
			checkRefused(t, what, resultsOf(impl.SwapColours(c.lands, c.list, colours, land, other)), want)
		}
		for _, colours := range [][]int64{right, same} {
			for _, land := range wrongLands(c.lands) {
				for _, other := range append(otherArgument.wrong, otherArgument.right...) {
					refused(impl.ErrRange, colours, land, other)
				}
			}
			for _, other := range otherArgument.wrong {
				refused(impl.ErrRange, colours, c.lands-1, other)
			}
		}
		for _, colours := range wrongColours(c.lands) {
			for _, land := range []int64{0, c.lands - 1, -1, c.lands, math.MinInt64} {
				for _, other := range []int64{0, maxLands - 1, -1, maxLands, math.MaxInt64} {
					refused(impl.ErrRange, colours, land, other)
				}
			}
		}
		for land := range c.lands {
			refused(impl.ErrClash, right, land, right[land])
			if len(c.list) > 0 {
				refused(impl.ErrState, same, land, 0)
				refused(impl.ErrState, same, land, 1)
			}
		}
	}
}

// The only two neighbours with one colour may lie far from the land.
func TestErrorsOfSwapColoursAwayFromTheLand(t *testing.T) {
	c := countryOf(6, 0, 1, 2, 3, 4, 5)
	for _, colours := range [][]int64{{0, 0, 1, 0, 1, 0}, {1, 0, 2, 2, 0, 1}, {0, 1, 0, 1, 9, 9}} {
		for land := range c.lands {
			for other := range int64(maxLands) {
				checkRefused(t, fmt.Sprint("SwapColours ", colours, land, other), resultsOf(impl.SwapColours(c.lands, c.list, colours, land, other)), impl.ErrState)
			}
		}
	}
}
