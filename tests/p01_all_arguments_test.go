package tests

import (
	"fmt"
	"math"
	"slices"
	"strings"
	"sync"
	"testing"

	"loop.example/g01055/impl"
)

// A probe is a call of a function with its arguments, whose results are told as a text.
type probe struct {
	name string
	call func() string
}

func told(results ...any) string { return fmt.Sprintf("%#v", results) }

func probeNumbers() []int64 {
	list := []int64{
		math.MinInt64, math.MinInt64 + 1, -maxAngle - 1, -maxAngle, -turn - 1, -turn, -half - 1, -half, -quarter - 1, -quarter, -1,
		0, 1, 10, 11, 99, 100, 101, 899, 900, 108000, quarter - 1, quarter, quarter + 1, half - 1, half, turn - 900, unit - 1, unit, unit + 1, turn - quarter, turn - 1, turn, maxAngle, maxAngle + 1, 1 << 32,
		999999999999999999, 1000000000000000000, math.MaxInt64 - 1, math.MaxInt64,
	}
	return list
}

func probeTexts() []string {
	list := []string{
		"", " ", "a", "gore-3", "a b  c ", "-", "0", "-0", "-1", "7h00m", "13h05m", "24h00m", "h", "m", "52.00.30n 1.15.00w", "n e", ". .", "..n ..e",
		"999999999999999999.00.00n 1.00.00e", "9223372036854775807", "\x00", "\xff\xfe", "é", "\u2003", "\ufffd", "n", "é.00.00n 0.00.00e",
	}
	for _, s := range []string{" ", "0", "9", "a", ".", "h", "m", "n", "e", "-", "é", "\xff", "a ", "1h00m ", "0.00.00n "} {
		list = append(list, strings.Repeat(s, 50000))
	}
	return list
}

func probeSpots() []impl.Spot {
	var list []impl.Spot
	for _, lat := range probeNumbers() {
		for _, lon := range probeNumbers() {
			list = append(list, impl.Spot{Lat: lat, Lon: lon})
		}
	}
	return list
}

// probeSpotLists returns lists of spots, the last of them much too long; each has some capacity behind its end.
func probeSpotLists() [][]impl.Spot {
	mixed := append(drawnSpots()[:50:50], wrongSpots()...)
	lists := [][]impl.Spot{
		nil, {}, {{}}, {{Lon: -1}, {Lon: 5}, {Lon: 7}}, {{Lat: quarter, Lon: half - 1}, {Lat: -quarter, Lon: -half}, {Lat: quarter, Lon: half - 1}},
		drawnSpots()[:100], drawnSpots()[50:150], drawnSpots()[:101], wrongSpots(), mixed, make([]impl.Spot, 100000),
	}
	for i, list := range lists {
		longer := append(slices.Clone(list), impl.Spot{Lat: 77, Lon: -77}, impl.Spot{Lat: math.MinInt64, Lon: math.MaxInt64})
		lists[i] = longer[:len(list)]
	}
	return lists
}

func textProbes(texts []string) []probe {
	var list []probe
	for _, s := range texts {
		arg := quoted(s)
		list = append(list,
			probe{"IsName " + arg, func() string { return told(impl.IsName(s)) }},
			probe{"ReadDecimal " + arg, func() string { return told(impl.ReadDecimal(s)) }},
			probe{"SplitWords " + arg, func() string { return told(impl.SplitWords(s)) }},
			probe{"ReadHour " + arg, func() string { return told(impl.ReadHour(s)) }},
			probe{"ReadSpot " + arg, func() string { return told(impl.ReadSpot(s)) }})
	}
	return list
}

func numberProbes() []probe {
	var list []probe
	for _, n := range probeNumbers() {
		arg := fmt.Sprint(n)
		list = append(list,
			probe{"CodeName " + arg, func() string { return told(impl.CodeName(n)) }},
			probe{"Decimal " + arg, func() string { return told(impl.Decimal(n)) }},
			probe{"WrapLon " + arg, func() string { return told(impl.WrapLon(n)) }},
			probe{"HourText " + arg, func() string { return told(impl.HourText(n)) }})
		for _, m := range probeNumbers() {
			list = append(list, probe{"LonDifference " + arg + " " + fmt.Sprint(m), func() string { return told(impl.LonDifference(n, m)) }})
		}
	}
	return list
}

func sineProbes() []probe {
	var list []probe
	for _, n := range probeNumbers() {
		arg := fmt.Sprint(n)
		list = append(list,
			probe{"SineOf " + arg, func() string { return told(impl.SineOf(n)) }},
			probe{"CosineOf " + arg, func() string { return told(impl.CosineOf(n)) }},
			probe{"TangentOf " + arg, func() string { return told(impl.TangentOf(n)) }},
			probe{"ArcOf " + arg, func() string { return told(impl.ArcOf(n)) }},
			probe{"ChordOf " + arg, func() string { return told(impl.ChordOf(n)) }})
		for _, m := range probeNumbers() {
			both := arg + " " + fmt.Sprint(m)
			list = append(list,
				probe{"SineTable " + both, func() string { return told(impl.SineTable(n, m)) }},
				probe{"BetweenSine " + both, func() string { return told(impl.BetweenSine(n, m)) }},
				probe{"WidthAt " + both, func() string { return told(impl.WidthAt(n, m)) }},
				probe{"WorstStep " + both, func() string { return told(impl.WorstStep(n, m)) }})
		}
	}
	return list
}

func spotProbes() []probe {
	var list []probe
	for _, p := range probeSpots() {
		arg := name(p)
		list = append(list,
			probe{"ValidSpot " + arg, func() string { return told(impl.ValidSpot(p)) }},
			probe{"Antipode " + arg, func() string { return told(impl.Antipode(p)) }},
			probe{"SpotText " + arg, func() string { return told(impl.SpotText(p)) }})
		for _, n := range probeNumbers() {
			list = append(list, probe{"TurnSpot " + arg + " " + fmt.Sprint(n), func() string { return told(impl.TurnSpot(p, n)) }})
		}
	}
	return list
}

// goreProbeNumbers has numbers of gores, and numbers that are none.
func goreProbeNumbers() []int64 {
	return []int64{math.MinInt64, -turn, -12, -1, 0, 1, 5, 6, 7, 12, 25, 45, 48, 49, 50, turn, math.MaxInt64}
}

// sizeProbeNumbers has numbers about the limits of circumferences, latitudes, steps, papers and gores.
func sizeProbeNumbers() []int64 {
	return []int64{
		math.MinInt64, math.MinInt64 + 1, -turn, -quarter - 1, -quarter, -quarter + 1, -1, 0, 1, 6, 12, 47, 48, 1000, leastStep - 1, leastStep,
		maxPaper, maxPaper + 1, 216000, quarter - 1, quarter, quarter + 1, maxAround, maxAround + 1, 1 << 32, math.MaxInt64 - 1, math.MaxInt64,
	}
}

func goreProbes() []probe {
	var list []probe
	for _, n := range goreProbeNumbers() {
		arg := fmt.Sprint(n)
		list = append(list,
			probe{"ValidGores " + arg, func() string { return told(impl.ValidGores(n)) }},
			probe{"GoreSpan " + arg, func() string { return told(impl.GoreSpan(n)) }})
		for _, p := range probeSpots() {
			list = append(list, probe{"GoreOf " + arg + " " + name(p), func() string { return told(impl.GoreOf(n, p)) }})
		}
		for i, spots := range probeSpotLists() {
			list = append(list, probe{"GoresTouched " + arg + " list " + fmt.Sprint(i), func() string { return told(impl.GoresTouched(n, spots)) }})
		}
		for _, a := range sizeProbeNumbers() {
			list = append(list, probe{"GoreMiddle " + arg + " " + fmt.Sprint(a), func() string { return told(impl.GoreMiddle(n, a)) }})
			for _, b := range sizeProbeNumbers() {
				all := arg + " " + fmt.Sprint(a, b)
				list = append(list,
					probe{"GoreWidth " + all, func() string { return told(impl.GoreWidth(n, a, b)) }},
					probe{"GoreWidths " + all, func() string { return told(impl.GoreWidths(n, a, b)) }},
					probe{"ClosingAt " + all, func() string { return told(impl.ClosingAt(n, a, b)) }},
					probe{"WorstClosing " + all, func() string { return told(impl.WorstClosing(n, a, b)) }},
					probe{"SheetsForGores " + all, func() string { return told(impl.SheetsForGores(n, a, b)) }})
			}
		}
	}
	for _, a := range sizeProbeNumbers() {
		for _, b := range sizeProbeNumbers() {
			list = append(list, probe{"FewestGores " + fmt.Sprint(a, b), func() string { return told(impl.FewestGores(a, b)) }})
		}
	}
	return list
}

// resultOf makes the call; a panic is an error.
func (x probe) resultOf(t *testing.T) (result string) {
	defer func() {
		if r := recover(); r != nil {
			t.Errorf("%s panics: %v", x.name, r)
		}
	}()
	return x.call()
}

// TestEveryFunctionReturnsAndRepeats makes all calls, makes them once more in the reverse order, and then at the same time, so that a
// result that depends on calls before it or beside it is noticed.
func TestEveryFunctionReturnsAndRepeats(t *testing.T) {
	texts := probeTexts()
	copies := make([]string, len(texts))
	for i, s := range texts {
		copies[i] = strings.Clone(s)
	}
	probes := slices.Concat(textProbes(texts), numberProbes(), sineProbes(), spotProbes(), goreProbes())
	first := make([]string, len(probes))
	for i, x := range probes {
		first[i] = x.resultOf(t)
	}
	for i, x := range slices.Backward(probes) {
		same(t, x.name, x.resultOf(t), first[i])
	}
	var all sync.WaitGroup
	for k := range 4 {
		all.Go(func() {
			for i := k; i < len(probes); i += 4 {
				same(t, probes[i].name, probes[i].resultOf(t), first[i])
			}
		})
	}
	all.Wait()
	if !slices.Equal(texts, copies) {
		t.Error("a text was modified")
	}
}

func TestEqualTextsHaveEqualResults(t *testing.T) {
	texts := probeTexts()
	copies := make([]string, len(texts))
	for i, s := range texts {
		copies[i] = strings.Clone("x" + s)[1:]
	}
	others := textProbes(copies)
	for i, x := range textProbes(texts) {
		same(t, x.name, others[i].resultOf(t), x.resultOf(t))
	}
}

// TestWordsAreNewMemory changes a result, with what lies behind it, and asks again.
func TestWordsAreNewMemory(t *testing.T) {
	for _, s := range []string{"a", "a b", " sine 108000 ", strings.Repeat("b ", 100)} {
		first := impl.SplitWords(s)
		other := impl.SplitWords(s)
		want := slices.Clone(first)
		spoilt := first[:cap(first)]
		for i := range spoilt {
			spoilt[i] = "spoilt"
		}
		if !slices.Equal(other, want) || !slices.Equal(impl.SplitWords(s), want) {
			t.Errorf("SplitWords %s: a change of one result shows in another one", quoted(s))
		}
	}
}

// TestTablesAreNewMemory changes a table, with what lies behind it, and asks again.
func TestTablesAreNewMemory(t *testing.T) {
	for _, x := range [][2]int64{{108000, 3}, {1, 1}, {quarter, 100}, {900, 99}} {
		first, _ := impl.SineTable(x[0], x[1])
		other, _ := impl.SineTable(x[0], x[1])
		worst, _ := impl.WorstStep(x[0], x[1])
		want := slices.Clone(first)
		spoilt := first[:cap(first)]
		for i := range spoilt {
			spoilt[i] = -7 * int64(i+1)
		}
		again, _ := impl.SineTable(x[0], x[1])
		if !slices.Equal(other, want) || !slices.Equal(again, want) {
			t.Errorf("SineTable %v: a change of one result shows in another one", x)
		}
		worstAgain, _ := impl.WorstStep(x[0], x[1])
		same(t, "WorstStep after a change of a table", worstAgain, worst)
	}
}

// TestListsOfSpotsAreNotModified looks at what lies behind a list as well.
func TestListsOfSpotsAreNotModified(t *testing.T) {
	for i, list := range probeSpotLists() {
		whole := list[:cap(list)]
		before := slices.Clone(whole)
		for _, gores := range goreProbeNumbers() {
			impl.GoresTouched(gores, list)
			if !slices.Equal(whole, before) {
				t.Errorf("GoresTouched %d: the list %d was modified", gores, i)
			}
		}
	}
}

// Equal lists are told equal gores, whatever memory they lie in.
func TestEqualListsHaveEqualGores(t *testing.T) {
	for i, list := range probeSpotLists() {
		for _, gores := range goreProbeNumbers() {
			what := fmt.Sprint("GoresTouched ", gores, " list ", i)
			same(t, what, told(impl.GoresTouched(gores, slices.Clip(slices.Clone(list)))), told(impl.GoresTouched(gores, list)))
		}
	}
	for _, gores := range goreProbeNumbers() {
		none, code := impl.GoresTouched(gores, nil)
		empty, other := impl.GoresTouched(gores, []impl.Spot{})
		same(t, "gores of no places", len(none)+len(empty), 0)
		same(t, "GoresTouched of no places", code, other)
	}
}

// TestGoresAreNewMemory changes lists of widths and of gores, with what lies behind them, and asks again.
func TestGoresAreNewMemory(t *testing.T) {
	spots := drawnSpots()[:100]
	for _, gores := range rightGores() {
		for what, ask := range map[string]func() ([]int64, int64){
			"GoreWidths":   func() ([]int64, int64) { return impl.GoreWidths(gores, 1000, leastStep) },
			"GoresTouched": func() ([]int64, int64) { return impl.GoresTouched(gores, spots) },
		} {
			first, _ := ask()
			other, _ := ask()
			want := slices.Clone(first)
			spoilt := first[:cap(first)]
			for i := range spoilt {
				spoilt[i] = -7 * int64(i+1)
			}
			again, _ := ask()
			if !slices.Equal(other, want) || !slices.Equal(again, want) {
				t.Errorf("%s %d: a change of one result shows in another one", what, gores)
			}
		}
		same(t, "ValidGores after a change", impl.ValidGores(gores), true)
	}
}
