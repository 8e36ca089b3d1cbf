package tests

import (
	"fmt"
	"math/rand"
	"slices"
	"testing"

	"loop.example/g01055/impl"
)

// countriesForColours has all countries with up to five lands, and greater ones that need up to eight colours.
func countriesForColours() []country { return append(smallCountries(5), bigCountries()...) }

// coloursNeeded returns the number of the fewest colours.
func coloursNeeded(t *testing.T, c country) int64 {
	t.Helper()
	needed, code := impl.FewestColours(c.lands, c.list)
	same(t, fmt.Sprint("FewestColours ", c), code, impl.OK)
	return needed
}

// checkRight looks at colours without FirstClash as well.
func checkRight(t *testing.T, what string, c country, colours []int64, many int64) {
	t.Helper()
	same(t, what+": one for each land", int64(len(colours)), c.lands)
	for _, colour := range colours {
		if colour < 0 || colour >= many {
			t.Errorf("%s: got %v, but there are %d colours", what, colours, many)
		}
	}
	for _, b := range c.list {
		if colours[b.A] == colours[b.B] {
			t.Errorf("%s: got %v, but %v has one colour on both sides", what, colours, b)
		}
	}
	same(t, what+": FirstClash", resultOf(impl.FirstClash(c.lands, c.list, colours)), result{-1, impl.OK})
}

func TestRightColoursAreThereJustIfThereAreEnough(t *testing.T) {
	for _, c := range countriesForColours() {
		needed := coloursNeeded(t, c)
		if needed < 1 || needed > c.lands {
			t.Errorf("FewestColours %v: got %d", c, needed)
		}
		for many := int64(1); many <= maxColours; many++ {
			what := fmt.Sprint("colours of ", c, " ", many)
			ways, code := impl.CountColours(c.lands, c.list, many)
			same(t, what, code, impl.OK)
			same(t, what+" are there", ways > 0, many >= needed)
			colours, code := impl.FirstColours(c.lands, c.list, many)
			if many < needed {
				same(t, what, code, impl.ErrNotFound)
				same(t, what+" beside the code", len(colours), 0)
				continue
			}
			same(t, what, code, impl.OK)
			checkRight(t, what, c, colours, many)
			if many == needed {
				// All colours are used, as no fewer are enough.
				same(t, what+": the greatest one", slices.Max(colours), needed-1)
			}
		}
	}
}

// With one colour more, there are all ways as before, and those with the new colour; the first colours are no greater.
func TestMoreColoursHaveMoreWays(t *testing.T) {
	for _, c := range countriesForColours() {
		needed := coloursNeeded(t, c)
		for many := needed; many < maxColours; many++ {
			before, _ := impl.CountColours(c.lands, c.list, many)
			after, _ := impl.CountColours(c.lands, c.list, many+1)
			if after <= before {
				t.Errorf("CountColours %v: got %d with %d colours, and %d with one more", c, before, many, after)
			}
			first, _ := impl.FirstColours(c.lands, c.list, many)
			next, _ := impl.FirstColours(c.lands, c.list, many+1)
			if slices.Compare(next, first) > 0 {
				t.Errorf("FirstColours %v: got %v with %d colours, and %v with one more", c, first, many, next)
			}
		}
	}
}

// A land without neighbours needs no other colour, wherever it stands; it may have each colour.
func TestLandsWithoutNeighboursNeedNoColours(t *testing.T) {
	for _, c := range countriesForColours() {
		if c.lands == maxLands {
			continue
		}
		// The new land is the last one, or the first one, before which all others move on.
		last, first := country{c.lands + 1, c.list}, country{lands: c.lands + 1}
		for _, b := range c.list {
			first.list = append(first.list, impl.Border{A: b.A + 1, B: b.B + 1})
		}
		needed := coloursNeeded(t, c)
		checkFewestColours(t, last, needed)
		checkFewestColours(t, first, needed)
		hard, _ := impl.HardBorders(c.lands, c.list)
		checkHard(t, last, hard...)
		checkHard(t, first, hard...)
		for many := int64(1); many <= maxColours; many++ {
			ways, _ := impl.CountColours(c.lands, c.list, many)
			checkWays(t, last, many, many*ways)
			checkWays(t, first, many, many*ways)
			if colours, code := impl.FirstColours(c.lands, c.list, many); code == impl.OK {
				checkFirst(t, last, many, append(slices.Clone(colours), 0)...)
				checkFirst(t, first, many, append([]int64{0}, colours...)...)
			} else {
				checkNoColours(t, last, many)
				checkNoColours(t, first, many)
			}
		}
	}
}

// Without a border, one colour fewer is enough if it is hard, and just as many are needed otherwise.
func TestWithoutAHardBorderFewerColoursAreEnough(t *testing.T) {
	for _, c := range countriesForColours() {
		needed := coloursNeeded(t, c)
		hard, code := impl.HardBorders(c.lands, c.list)
		same(t, fmt.Sprint("HardBorders ", c), code, impl.OK)
		for i := 1; i < len(hard); i++ {
			if hard[i-1] >= hard[i] {
				t.Errorf("HardBorders %v: got %v, out of order", c, hard)
			}
		}
		for i := range int64(len(c.list)) {
			rest := c.without(i)
			if !slices.Contains(hard, i) {
				checkFewestColours(t, rest, needed)
				continue
			}
			checkFewestColours(t, rest, needed-1)
			if needed-1 <= maxColours {
				what := fmt.Sprint("FirstColours ", rest, needed-1)
				colours, code := impl.FirstColours(rest.lands, rest.list, needed-1)
				same(t, what, code, impl.OK)
				checkRight(t, what, rest, colours, needed-1)
				// Only the border that is taken away keeps these colours from being right.
				checkClash(t, c, i, colours...)
			}
		}
	}
}

// No order leads to fewer colours, and one that goes from colour to colour leads to the fewest.
func TestNoOrderNeedsFewerColours(t *testing.T) {
	r := rand.New(rand.NewSource(34))
	for _, c := range countriesForColours() {
		needed := coloursNeeded(t, c)
		for range 5 {
			order := drawnOrder(r, c.lands)
			colours, code := impl.GreedyColours(c.lands, c.list, order)
			what := fmt.Sprint("GreedyColours ", c, order)
			same(t, what, code, impl.OK)
			checkRight(t, what, c, colours, maxLands)
			if slices.Max(colours)+1 < needed {
				t.Errorf("%s: got %v, but %d colours are needed", what, colours, needed)
			}
			slices.SortStableFunc(order, func(a, b int64) int { return int(colours[a] - colours[b]) })
			again, _ := impl.GreedyColours(c.lands, c.list, order)
			if slices.Max(again) > slices.Max(colours) {
				t.Errorf("%s: got %v, but %v from colour to colour", what, colours, again)
			}
		}
		if needed <= maxColours {
			first, _ := impl.FirstColours(c.lands, c.list, needed)
			order := allPoints(int(c.lands))
			slices.SortStableFunc(order, func(a, b int64) int { return int(first[a] - first[b]) })
			colours, _ := impl.GreedyColours(c.lands, c.list, order)
			same(t, fmt.Sprint("GreedyColours ", c, order), slices.Max(colours)+1, needed)
		}
	}
}

// Colours that are swapped are right, and swapped back they are as before.
func TestSwapsKeepColoursRight(t *testing.T) {
	r := rand.New(rand.NewSource(35))
	for _, c := range countriesForColours() {
		colours, code := impl.GreedyColours(c.lands, c.list, drawnOrder(r, c.lands))
		same(t, "GreedyColours", code, impl.OK)
		for range 6 {
			land, other := r.Int63n(c.lands), r.Int63n(maxLands)
			own := colours[land]
			swapped, code := impl.SwapColours(c.lands, c.list, colours, land, other)
			what := fmt.Sprint("SwapColours ", c, colours, land, other)
			if own == other {
				same(t, what, code, impl.ErrClash)
				continue
			}
			same(t, what, code, impl.OK)
			checkRight(t, what, c, swapped, maxLands)
			same(t, what+": the land", swapped[land], other)
			checkSwapped(t, c, swapped, land, own, colours...)
			colours = swapped
		}
	}
}
