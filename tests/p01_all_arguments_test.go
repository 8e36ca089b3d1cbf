package tests

import (
	"fmt"
	"math"
	"math/rand"
	"runtime"
	"slices"
	"strings"
	"sync"
	"testing"
	"time"

	"loop.example/g01055/impl"
)

// A probe is a call of a function with its arguments, whose results are told as a text.
type probe struct {
	name string
	call func() string
}

func told(results ...any) string { return fmt.Sprintf("%#v", results) }

func probeNumbers() []int64 {
	list := []int64{
		math.MinInt64, math.MinInt64 + 1, -maxAngle - 1, -maxAngle, -turn - 1, -turn, -half - 1, -half, -quarter - 1, -quarter, -1,
		0, 1, 10, 11, 99, 100, 101, 899, 900, 108000, quarter - 1, quarter, quarter + 1, half - 1, half, turn - 900, unit - 1, unit, unit + 1, turn - quarter, turn - 1, turn, maxAngle, maxAngle + 1, 1 << 32,
		999999999999999999, 1000000000000000000, math.MaxInt64 - 1, math.MaxInt64,
	}
	return list
}

func probeTexts() []string {
	list := []string{
		"", " ", "a", "gore-3", "a b  c ", "-", "0", "-0", "-1", "7h00m", "13h05m", "24h00m", "h", "m", "52.00.30n 1.15.00w", "n e", ". .", "..n ..e",
		"999999999999999999.00.00n 1.00.00e", "9223372036854775807", "\x00", "\xff\xfe", "é", "\u2003", "\ufffd", "n", "é.00.00n 0.00.00e",
		"#", ">", "#3 - > cape-2", "#11 a > -", "#12 a > b", "#-0 a > b", "#3 - > -", "#3 a > a", "#  > ", "# - > a", "#999999999999999999 a > b", "#3 \xff > é", "#3 a\x00> b",
	}
	for _, s := range []string{" ", "0", "9", "a", ".", "h", "m", "n", "e", "-", "é", "\xff", "a ", "1h00m ", "0.00.00n ", "#", "#3 ", "#3 a > b "} {
		list = append(list, strings.Repeat(s, 50000))
	}
	return list
}

func probeSpots() []impl.Spot {
	var list []impl.Spot
	for _, lat := range probeNumbers() {
		for _, lon := range probeNumbers() {
			list = append(list, impl.Spot{Lat: lat, Lon: lon})
		}
	}
	return list
}

// probeSpotLists returns lists of spots, the last of them much too long; each has some capacity behind its end.
func probeSpotLists() [][]impl.Spot {
	mixed := append(drawnSpots()[:50:50], wrongSpots()...)
	lists := [][]impl.Spot{
		nil, {}, {{}}, {{Lon: -1}, {Lon: 5}, {Lon: 7}}, {{Lat: quarter, Lon: half - 1}, {Lat: -quarter, Lon: -half}, {Lat: quarter, Lon: half - 1}},
		drawnSpots()[:100], drawnSpots()[50:150], drawnSpots()[:101], wrongSpots(), mixed, make([]impl.Spot, 100000),
	}
	for i, list := range lists {
		longer := append(slices.Clone(list), impl.Spot{Lat: 77, Lon: -77}, impl.Spot{Lat: math.MinInt64, Lon: math.MaxInt64})
		lists[i] = longer[:len(list)]
	}
	return lists
}

func textProbes(texts []string) []probe {
	var list []probe
	for _, s := range texts {
		arg := quoted(s)
		list = append(list,
			probe{"IsName " + arg, func() string { return told(impl.IsName(s)) }},
			probe{"ReadDecimal " + arg, func() string { return told(impl.ReadDecimal(s)) }},
			probe{"SplitWords " + arg, func() string { return told(impl.SplitWords(s)) }},
			probe{"ReadHour " + arg, func() string { return told(impl.ReadHour(s)) }},
			probe{"ReadSpot " + arg, func() string { return told(impl.ReadSpot(s)) }},
			probe{"ReadEdit " + arg, func() string { return told(impl.ReadEdit(s)) }})
	}
	return list
}

func numberProbes() []probe {
	var list []probe
	for _, n := range probeNumbers() {
		arg := fmt.Sprint(n)
		list = append(list,
			probe{"CodeName " + arg, func() string { return told(impl.CodeName(n)) }},
			probe{"Decimal " + arg, func() string { return told(impl.Decimal(n)) }},
			probe{"WrapLon " + arg, func() string { return told(impl.WrapLon(n)) }},
			probe{"HourText " + arg, func() string { return told(impl.HourText(n)) }})
		for _, m := range probeNumbers() {
			list = append(list, probe{"LonDifference " + arg + " " + fmt.Sprint(m), func() string { return told(impl.LonDifference(n, m)) }})
		}
	}
	return list
}

func sineProbes() []probe {
	var list []probe
	for _, n := range probeNumbers() {
		arg := fmt.Sprint(n)
		list = append(list,
			probe{"SineOf " + arg, func() string { return told(impl.SineOf(n)) }},
			probe{"CosineOf " + arg, func() string { return told(impl.CosineOf(n)) }},
			probe{"TangentOf " + arg, func() string { return told(impl.TangentOf(n)) }},
			probe{"ArcOf " + arg, func() string { return told(impl.ArcOf(n)) }},
			probe{"ChordOf " + arg, func() string { return told(impl.ChordOf(n)) }})
		for _, m := range probeNumbers() {
			both := arg + " " + fmt.Sprint(m)
			list = append(list,
				probe{"SineTable " + both, func() string { return told(impl.SineTable(n, m)) }},
				probe{"BetweenSine " + both, func() string { return told(impl.BetweenSine(n, m)) }},
				probe{"WidthAt " + both, func() string { return told(impl.WidthAt(n, m)) }},
				probe{"WorstStep " + both, func() string { return told(impl.WorstStep(n, m)) }})
		}
	}
	return list
}

func spotProbes() []probe {
	var list []probe
	for _, p := range probeSpots() {
		arg := name(p)
		list = append(list,
			probe{"ValidSpot " + arg, func() string { return told(impl.ValidSpot(p)) }},
			probe{"Antipode " + arg, func() string { return told(impl.Antipode(p)) }},
			probe{"SpotText " + arg, func() string { return told(impl.SpotText(p)) }})
		for _, n := range probeNumbers() {
			list = append(list, probe{"TurnSpot " + arg + " " + fmt.Sprint(n), func() string { return told(impl.TurnSpot(p, n)) }})
		}
	}
	return list
}

// goreProbeNumbers has numbers of gores, and numbers that are none.
func goreProbeNumbers() []int64 {
	return []int64{math.MinInt64, -turn, -12, -1, 0, 1, 5, 6, 7, 12, 25, 45, 48, 49, 50, turn, math.MaxInt64}
}

// sizeProbeNumbers has numbers about the limits of circumferences, latitudes, steps, papers and gores.
func sizeProbeNumbers() []int64 {
	return []int64{
		math.MinInt64, math.MinInt64 + 1, -turn, -quarter - 1, -quarter, -quarter + 1, -1, 0, 1, 6, 12, 47, 48, 1000, leastStep - 1, leastStep,
		maxPaper, maxPaper + 1, 216000, quarter - 1, quarter, quarter + 1, maxAround, maxAround + 1, 1 << 32, math.MaxInt64 - 1, math.MaxInt64,
	}
}

func goreProbes() []probe {
	var list []probe
	for _, n := range goreProbeNumbers() {
		arg := fmt.Sprint(n)
		list = append(list,
			probe{"ValidGores " + arg, func() string { return told(impl.ValidGores(n)) }},
			probe{"GoreSpan " + arg, func() string { return told(impl.GoreSpan(n)) }})
		for _, p := range probeSpots() {
			list = append(list, probe{"GoreOf " + arg + " " + name(p), func() string { return told(impl.GoreOf(n, p)) }})
		}
		for i, spots := range probeSpotLists() {
			list = append(list, probe{"GoresTouched " + arg + " list " + fmt.Sprint(i), func() string { return told(impl.GoresTouched(n, spots)) }})
		}
		for _, a := range sizeProbeNumbers() {
			list = append(list, probe{"GoreMiddle " + arg + " " + fmt.Sprint(a), func() string { return told(impl.GoreMiddle(n, a)) }})
			for _, b := range sizeProbeNumbers() {
				all := arg + " " + fmt.Sprint(a, b)
				list = append(list,
					probe{"GoreWidth " + all, func() string { return told(impl.GoreWidth(n, a, b)) }},
					probe{"GoreWidths " + all, func() string { return told(impl.GoreWidths(n, a, b)) }},
					probe{"ClosingAt " + all, func() string { return told(impl.ClosingAt(n, a, b)) }},
					probe{"WorstClosing " + all, func() string { return told(impl.WorstClosing(n, a, b)) }},
					probe{"SheetsForGores " + all, func() string { return told(impl.SheetsForGores(n, a, b)) }})
			}
		}
	}
	for _, a := range sizeProbeNumbers() {
		for _, b := range sizeProbeNumbers() {
			list = append(list, probe{"FewestGores " + fmt.Sprint(a, b), func() string { return told(impl.FewestGores(a, b)) }})
		}
	}
	return list
}

// routeProbeLists returns lists of spots about the limits of routes, with and without spots that are not valid; each has some capacity
// behind its end.
func routeProbeLists() [][]impl.Spot {
	lists := probeSpotLists()
	for _, list := range drawnSpotLists() {
		lists = append(lists, append(slices.Clone(list), impl.Spot{Lat: 77}, impl.Spot{Lon: math.MinInt64})[:len(list)])
	}
	for _, many := range []int{1, 2, maxVisits, maxVisits + 1, maxRoute, maxRoute + 1} {
		wrong := make([]impl.Spot, many, many+3)
		wrong[many-1] = impl.Spot{Lat: math.MaxInt64, Lon: math.MinInt64}
		lists = append(lists, atPole(many), make([]impl.Spot, many, 2*many), wrong)
	}
	return lists
}

func pairProbes() []probe {
	spots := append(wrongSpots(), impl.Spot{}, impl.Spot{Lon: 1}, impl.Spot{Lat: 36000}, impl.Spot{Lat: -36000, Lon: -half}, impl.Spot{Lat: quarter, Lon: half - 1})
	var list []probe
	for _, a := range slices.Concat(spots, drawnSpots()[:40]) {
		for _, b := range slices.Concat(spots, drawnSpots()[100:140]) {
			arg := name(a) + " " + name(b)
			list = append(list,
				probe{"CosDistance " + arg, func() string { return told(impl.CosDistance(a, b)) }},
				probe{"DistanceOf " + arg, func() string { return told(impl.DistanceOf(a, b)) }})
		}
	}
	return list
}

// routeProbes has the calls of all functions of distances with a list; the names of the lists are their indices.
func routeProbes(lists [][]impl.Spot) []probe {
	var list []probe
	for i, spots := range lists {
		arg := "list " + fmt.Sprint(i)
		list = append(list,
			probe{"FarthestPair " + arg, func() string { return told(impl.FarthestPair(spots)) }},
			probe{"RouteLength " + arg, func() string { return told(impl.RouteLength(spots)) }},
			probe{"ShortestRoute " + arg, func() string { return told(impl.ShortestRoute(spots)) }},
			probe{"MiddleSpot " + arg, func() string { return told(impl.MiddleSpot(spots)) }},
			probe{"DistanceTable " + arg, func() string { return told(impl.DistanceTable(spots)) }})
		for _, a := range []impl.Spot{{}, {Lat: -quarter, Lon: 5}, {Lat: quarter + 1}, {Lat: math.MinInt64, Lon: math.MaxInt64}} {
			list = append(list, probe{"NearestSpot " + arg + " " + name(a), func() string { return told(impl.NearestSpot(spots, a)) }})
			for _, most := range []int64{math.MinInt64, -1, 0, 108000, half, half + 1, math.MaxInt64} {
				all := arg + " " + name(a) + " " + fmt.Sprint(most)
				list = append(list, probe{"SpotsWithin " + all, func() string { return told(impl.SpotsWithin(spots, a, most)) }})
			}
		}
	}
	return list
}

// capProbeNumbers has numbers about the limits of circumferences, radii and widths.
func capProbeNumbers() []int64 {
	return []int64{math.MinInt64, math.MinInt64 + 1, -1, 0, 1, 8, 60, 61, 90, 91, 360, maxRadius, maxRadius + 1, maxAround, maxAround + 1, 1 << 62, math.MaxInt64}
}

func capProbes() []probe {
	var list []probe
	for _, a := range sizeProbeNumbers() {
		for _, b := range slices.Concat(sizeProbeNumbers(), []int64{half, turn, turn + 1}) {
			arg := fmt.Sprint(a, b)
			list = append(list,
				probe{"ArcLength " + arg, func() string { return told(impl.ArcLength(a, b)) }},
				probe{"CapRadius " + arg, func() string { return told(impl.CapRadius(a, b)) }},
				probe{"CapEdge " + arg, func() string { return told(impl.CapEdge(a, b)) }},
				probe{"RimExcess " + arg, func() string { return told(impl.RimExcess(a, b)) }},
				probe{"RingsOf " + arg, func() string { return told(impl.RingsOf(a, b)) }})
			for _, c := range capProbeNumbers() {
				all := arg + " " + fmt.Sprint(c)
				list = append(list,
					probe{"SlitsFor " + all, func() string { return told(impl.SlitsFor(a, b, c)) }},
					probe{"CapOverlap " + all, func() string { return told(impl.CapOverlap(a, c, b)) }},
					probe{"SmallestCap " + all, func() string { return told(impl.SmallestCap(a, b, c)) }})
			}
		}
	}
	spots := append(wrongSpots(), impl.Spot{}, impl.Spot{Lat: quarter}, impl.Spot{Lat: 252000, Lon: -half}, impl.Spot{Lat: -quarter, Lon: half - 1})
	for _, around := range capProbeNumbers() {
		for _, radius := range capProbeNumbers() {
			for _, width := range capProbeNumbers() {
				for _, p := range spots {
					all := fmt.Sprint(around, radius, width, " ", name(p))
					list = append(list, probe{"RingOf " + all, func() string { return told(impl.RingOf(around, radius, width, p)) }})
				}
			}
		}
	}
	return list
}

// discProbes has the calls of UnderCap; the names of the lists are their indices.
func discProbes(lists [][]impl.Spot) []probe {
	var list []probe
	for i, spots := range lists {
		for _, x := range [][2]int64{{360, 20}, {360, 90}, {360, 91}, {1, 0}, {maxAround, maxRadius}, {0, 20}, {maxAround + 1, -1}, {math.MinInt64, math.MaxInt64}, {math.MaxInt64, math.MinInt64}} {
			arg := "list " + fmt.Sprint(i, x)
			list = append(list, probe{"UnderCap " + arg, func() string { return told(impl.UnderCap(x[0], x[1], spots)) }})
		}
	}
	return list
}

// probeChains returns chains, and lists of places that are none, the last of them much too long; each has some capacity behind its end.
func probeChains() [][]impl.Place {
	chains := append(allChains(), chainOf(-1, 0, 0, 0), chainOf(0, 0, 0, maxPlace+1), chainOf(math.MinInt64, math.MaxInt64, math.MaxInt64, math.MinInt64, 5, 5))
	for _, many := range []int{0, 1, maxChain + 1, 100000} {
		chains = append(chains, make([]impl.Place, many))
	}
	chains = append(chains, nil)
	for i, chain := range chains {
		longer := append(slices.Clone(chain), impl.Place{X: 77, Y: 1}, impl.Place{X: math.MinInt64, Y: math.MaxInt64})
		chains[i] = longer[:len(chain)]
	}
	return chains
}

// probePoints returns lists of indices, and of numbers that are none; each has some capacity behind its end.
func probePoints() [][]int64 {
	lists := slices.Concat(wrongPoints(2), wrongPoints(9), [][]int64{{0, 1}, {1, 2}, {0, 3}, {0, 8}, {22, 23}, {1, 24}}, [][]int64{allPoints(2), allPoints(4), allPoints(maxChain), allPoints(maxChain + 1)})
	for i, points := range lists {
		lists[i] = append(slices.Clone(points), 1, math.MinInt64)[:len(points)]
	}
	return lists
}

func chainProbeNumbers() []int64 {
	return []int64{math.MinInt64, -1, 0, 1, 2, 3, maxChain - 1, maxChain, maxChain + 1, 1415, 2828, 2829, maxWithin, maxWithin + 1, 1 << 32, math.MaxInt64}
}

// chainProbes has the calls of all functions of outlines with one chain; the names of the chains are their indices.
func chainProbes(chains [][]impl.Place) []probe {
	var list []probe
	for i, chain := range chains {
		arg := "chain " + fmt.Sprint(i)
		list = append(list,
			probe{"ValidChain " + arg, func() string { return told(impl.ValidChain(chain)) }},
			probe{"SameChain " + arg, func() string { return told(impl.SameChain(chain, chain), impl.SameChain(chain, chains[0])) }},
			probe{"ReverseChain " + arg, func() string { return told(impl.ReverseChain(chain)) }},
			probe{"LengthBounds " + arg, func() string { return told(impl.LengthBounds(chain)) }},
			probe{"TurnsAside " + arg, func() string { return told(impl.TurnsAside(chain)) }})
		for _, n := range chainProbeNumbers() {
			all := arg + " " + fmt.Sprint(n)
			list = append(list,
				probe{"StaysWithin " + all, func() string { return told(impl.StaysWithin(chain, 0, 3, n)) }},
				probe{"StaysWithin to " + all, func() string { return told(impl.StaysWithin(chain, 1, n, 10)) }},
				probe{"StaysWithin from " + all, func() string { return told(impl.StaysWithin(chain, n, 8, n)) }},
				probe{"FewestPoints " + all, func() string { return told(impl.FewestPoints(chain, n)) }},
				probe{"LongSteps " + all, func() string { return told(impl.LongSteps(chain, n)) }},
				probe{"LeastBound " + all, func() string { return told(impl.LeastBound(chain, n)) }})
		}
	}
	return list
}

// pickProbes has the calls of PickPoints; the names of the lists are their indices.
func pickProbes(lists [][]int64) []probe {
	var list []probe
	for i, points := range lists {
		for k, chain := range [][]impl.Place{outlineOfExample(), chainOf(1, 1, 1, 1), roundabout(10), zigzag(maxChain), zigzag(maxChain + 1), nil} {
			arg := fmt.Sprint("chain ", k, " points ", i)
			list = append(list, probe{"PickPoints " + arg, func() string { return told(impl.PickPoints(chain, points)) }})
		}
	}
	return list
}

// flatProbeNumbers has numbers about the limits of flat places, and about the edges of the sphere with some scales.
func flatProbeNumbers() []int64 {
	return []int64{
		math.MinInt64, -maxFlat - 1, -maxFlat, -turn - 1, -turn, -half - 1, -half, -181, -180, -90, -1, 0, 1, 3, 90, 91, 179, 180, 360, 361,
		quarter, quarter + 1, half - 1, half, turn, turn + 1, maxFlat, maxFlat + 1, 1 << 32, math.MaxInt64,
	}
}

func scaleProbeNumbers() []int64 {
	return []int64{math.MinInt64, -1, 0, 1, 2, 3600, maxScale - 1, maxScale, maxScale + 1, 1 << 62, math.MaxInt64}
}

func mapProbes() []probe {
	var list []probe
	for _, lat := range append(probeNumbers(), wrongLats()...) {
		list = append(list, probe{"StretchAt " + fmt.Sprint(lat), func() string { return told(impl.StretchAt(lat)) }})
	}
	spots := slices.Concat(wrongSpots(), drawnSpots()[:150], nearPoles())
	for _, scale := range scaleProbeNumbers() {
		for _, p := range spots {
			arg := name(p) + " " + fmt.Sprint(scale)
			list = append(list,
				probe{"PlateOf " + arg, func() string { return told(impl.PlateOf(p, scale)) }},
				probe{"WaveOf " + arg, func() string { return told(impl.WaveOf(p, scale)) }},
				probe{"LossOf " + arg, func() string { return told(impl.LossOf(p, scale, false)) }},
				probe{"LossOf waves " + arg, func() string { return told(impl.LossOf(p, scale, true)) }})
		}
		for _, x := range flatProbeNumbers() {
			for _, y := range flatProbeNumbers() {
				f := impl.Flat{X: x, Y: y}
				arg := fmt.Sprint(x, y, scale)
				list = append(list,
					probe{"PlateBack " + arg, func() string { return told(impl.PlateBack(f, scale)) }},
					probe{"WaveBack " + arg, func() string { return told(impl.WaveBack(f, scale)) }},
					probe{"OnMap " + arg, func() string { return told(impl.OnMap(f, scale, false)) }},
					probe{"OnMap waves " + arg, func() string { return told(impl.OnMap(f, scale, true)) }})
			}
		}
	}
	return list
}

// mapProbeLists returns lists of spots about the limits of BestScale and of FlatBox; each has some capacity behind its end.
func mapProbeLists() [][]impl.Spot {
	lists := probeSpotLists()
	for _, many := range []int{1, maxSearched, maxSearched + 1, maxBoxed, maxBoxed + 1} {
		wrong := make([]impl.Spot, many, many+3)
		wrong[many-1] = impl.Spot{Lat: math.MinInt64, Lon: math.MaxInt64}
		lists = append(lists, atPole(many), drawnSpots()[60:60+many], nearPoles()[:min(many, 40)], make([]impl.Spot, many, 2*many), wrong)
	}
	return lists
}

// boxProbes has the calls of BestScale and of FlatBox; the names of the lists are their indices.
func boxProbes(lists [][]impl.Spot) []probe {
	var list []probe
	for i, spots := range lists {
		for _, wave := range bothKinds() {
			arg := fmt.Sprint("list ", i, " ", wave)
			for _, most := range []int64{math.MinInt64, -1, 0, 499, maxLoss, maxLoss + 1, math.MaxInt64} {
				list = append(list, probe{"BestScale " + arg + fmt.Sprint(" ", most), func() string { return told(impl.BestScale(spots, most, wave)) }})
			}
			for _, scale := range scaleProbeNumbers() {
				list = append(list, probe{"FlatBox " + arg + fmt.Sprint(" ", scale), func() string { return told(impl.FlatBox(spots, scale, wave)) }})
			}
		}
	}
	return list
}

// probeBorders returns lists of borders, and lists that are none, the last of them much too long; each has some capacity behind its end.
func probeBorders() [][]impl.Border {
	lists := [][]impl.Border{nil, {}, {{A: 0, B: 1}, {A: 0, B: 1}}, {{A: math.MinInt64, B: math.MaxInt64}}, {{A: math.MaxInt64, B: math.MinInt64}, {}}, borders(maxLands, 45), make([]impl.Border, 100000)}
	for _, c := range slices.Concat(bigCountries()[:40], smallCountries(3), fewCountries(), countriesWithOneTwice()[:5]) {
		lists = append(lists, c.list)
	}
	for i, list := range lists {
		longer := append(slices.Clone(list), impl.Border{A: 1, B: 2}, impl.Border{A: math.MinInt64, B: math.MaxInt64})
		lists[i] = longer[:len(list)]
	}
	return lists
}

// landProbeNumbers has numbers about the limits of lands and of colours.
func landProbeNumbers() []int64 {
	return []int64{math.MinInt64, -1, 0, 1, 2, 3, 5, maxColours, maxColours + 1, 9, maxLands, maxLands + 1, 64, math.MaxInt64}
}

// borderProbes has the calls of all functions of colours that take no other list; the names of the lists are their indices.
func borderProbes(lists [][]impl.Border) []probe {
	var list []probe
	for i, border := range lists {
		for _, lands := range landProbeNumbers() {
			arg := fmt.Sprint(lands, " list ", i)
			list = append(list,
				probe{"ValidBorders " + arg, func() string { return told(impl.ValidBorders(lands, border)) }},
				probe{"FewestColours " + arg, func() string { return told(impl.FewestColours(lands, border)) }},
				probe{"HardBorders " + arg, func() string { return told(impl.HardBorders(lands, border)) }},
				probe{"FirstClash " + arg, func() string { return told(impl.FirstClash(lands, border, []int64{0, 1, 0, 1, 0, 1, 0, 1, 0, 1})) }},
				probe{"GreedyColours " + arg, func() string { return told(impl.GreedyColours(lands, border, []int64{9, 0, 1, 2, 3, 4, 5, 6, 7, 8})) }},
				probe{"SwapColours " + arg, func() string { return told(impl.SwapColours(lands, border, allPoints(maxLands), 9, 0)) }})
			for _, n := range landProbeNumbers() {
				all := arg + " " + fmt.Sprint(n)
				list = append(list,
					probe{"NeighboursOf " + all, func() string { return told(impl.NeighboursOf(lands, border, n)) }},
					probe{"FirstColours " + all, func() string { return told(impl.FirstColours(lands, border, n)) }},
					probe{"CountColours " + all, func() string { return told(impl.CountColours(lands, border, n)) }})
			}
		}
	}
	return list
}

// probeLandNumbers returns lists that are colours or orders for some numbers of lands, and others; each has some capacity behind its end.
func probeLandNumbers() [][]int64 {
	lists := [][]int64{nil, {math.MinInt64, math.MaxInt64}, {0, 0, 0}, {2, 0, 1}, {0, 9, 0, 9, 9}, slices.Repeat([]int64{1, 0}, 5), make([]int64, 100000), allPoints(100000)}
	for many := 1; many <= maxLands+1; many++ {
		lists = append(lists, allPoints(many), make([]int64, many))
	}
	for i, numbers := range lists {
		lists[i] = append(slices.Clone(numbers), 1, math.MinInt64)[:len(numbers)]
	}
	return lists
}

// colourProbes has the calls of all functions with colours or orders; the names of the lists are their indices.
func colourProbes(lists [][]int64) []probe {
	countries := append(fewCountries(), countryOf(3, 0, 2), countryOf(3, 1, 0), countryOf(0), countryOf(maxLands+1), ring(maxLands, allPoints(maxLands)...), country{100000, nil}, country{math.MinInt64, nil}, country{math.MaxInt64, nil})
	var list []probe
	for i, numbers := range lists {
		for k, c := range countries {
			arg := fmt.Sprint("country ", k, " list ", i)
			list = append(list,
				probe{"FirstClash " + arg, func() string { return told(impl.FirstClash(c.lands, c.list, numbers)) }},
				probe{"GreedyColours " + arg, func() string { return told(impl.GreedyColours(c.lands, c.list, numbers)) }})
			for _, n := range landProbeNumbers() {
				all := arg + " " + fmt.Sprint(n)
				list = append(list,
					probe{"SwapColours of " + all, func() string { return told(impl.SwapColours(c.lands, c.list, numbers, n, 1)) }},
					probe{"SwapColours to " + all, func() string { return told(impl.SwapColours(c.lands, c.list, numbers, 0, n)) }})
			}
		}
	}
	return list
}

// joinProbes has the calls of all functions of joins with one or two chains; the names of the chains are their indices.
func joinProbes(chains [][]impl.Place) []probe {
	numbers := []int64{math.MinInt64, -maxPlace - 1, -maxPlace, -1, 0, 1, 5, maxPlace, maxPlace + 1, math.MaxInt64}
	var list []probe
	for i, chain := range chains {
		arg := "chain " + fmt.Sprint(i)
		list = append(list,
			probe{"IsClosed " + arg, func() string { return told(impl.IsClosed(chain)) }},
			probe{"TwiceArea " + arg, func() string { return told(impl.TwiceArea(chain)) }},
			probe{"LeftTurned " + arg, func() string { return told(impl.LeftTurned(chain)) }},
			probe{"JoinTwo with itself " + arg, func() string { return told(impl.JoinTwo(chain, chain)) }},
			probe{"JoinTwo with a part " + arg, func() string { return told(impl.JoinTwo(chain[:len(chain)/2], chain[len(chain)/3:])) }})
		for k := range 4 {
			other := chains[(i+k*k)%len(chains)]
			list = append(list, probe{"JoinTwo " + arg + fmt.Sprint(" ", k), func() string { return told(impl.JoinTwo(chain, other)) }})
		}
		for _, x := range numbers {
			for _, y := range numbers {
				all := arg + " " + fmt.Sprint(x, y)
				list = append(list,
					probe{"InsideOf " + all, func() string { return told(impl.InsideOf(chain, impl.Place{X: x, Y: y})) }},
					probe{"MoveChain " + all, func() string { return told(impl.MoveChain(chain, x, y)) }})
			}
		}
	}
	return list
}

// probeChainsOfJoins has closed chains as well; each has some capacity behind its end.
func probeChainsOfJoins() [][]impl.Place {
	chains := probeChains()
	for _, chain := range slices.Concat(closedChains(), openChains()[:20]) {
		chains = append(chains, withMore(chain))
	}
	return chains
}

// withMore returns a copy of a chain with some capacity behind its end.
func withMore(chain []impl.Place) []impl.Place {
	return append(slices.Clone(chain), impl.Place{X: 77, Y: 1}, impl.Place{X: math.MinInt64, Y: math.MaxInt64})[:len(chain)]
}

// probeChainLists returns lists of chains about the limits of joins, with and without chains that are not valid; each list, and each chain of
// it, has some capacity behind its end.
func probeChainLists() [][][]impl.Place {
	lists := append(chainLists(), slices.Repeat([][]impl.Place{chainOf(1, 1, 2, 2)}, maxJoined+1), make([][]impl.Place, 100000), slices.Repeat([][]impl.Place{triangleOfExample()}, 100000))
	for i, wrong := range wrongChains()[:40] {
		at := i % (maxJoined + 1)
		lists = append(lists, slices.Insert(openChains()[:maxJoined], at, wrong), slices.Insert(closedChains()[:at], at/2, wrong))
	}
	for i, list := range lists {
		longer := make([][]impl.Place, 0, len(list)+2)
		for _, chain := range list {
			longer = append(longer, withMore(chain))
		}
		lists[i] = append(longer, chainOf(77, 1, 5, 5), chainOf(math.MinInt64, 0))[:len(list)]
	}
	return lists
}

// joinListProbes has the calls of all functions with lists of chains; the names of the lists are their indices.
func joinListProbes(lists [][][]impl.Place) []probe {
	var list []probe
	for i, chains := range lists {
		for _, x := range callsOfChainLists() {
			list = append(list, probe{x.name + " list " + fmt.Sprint(i), func() string { return told(x.call(chains)...) }})
		}
	}
	return list
}

// probeLabelLists returns lists of labels about the limits of labels, with and without labels that are not valid; each list, and the Starts of
// each label, have some capacity behind their end.
func probeLabelLists() [][]impl.Label {
	lists := [][]impl.Label{nil, {}, apart(maxLabels + 1), slices.Repeat([]impl.Label{tens(1, 0, 5)}, 100000), make([]impl.Label, 100000), rightLabels()[:maxLabels]}
	lists = append(lists, labelLists()[:120]...)
	lists = append(lists, labelLists()[500:]...)
	for i, wrong := range wrongLabels() {
		at := i % maxLabels
		lists = append(lists, []impl.Label{wrong}, slices.Insert(apart(int64(at)), at/2, wrong))
	}
	for i, list := range lists {
		longer := make([]impl.Label, 0, len(list)+2)
		for _, l := range list {
			l.Starts = append(slices.Clone(l.Starts), 3, math.MinInt64)[:len(l.Starts)]
			longer = append(longer, l)
		}
		lists[i] = append(longer, tens(7, 5, 3), labelIn(math.MinInt64, 0, math.MaxInt64))[:len(list)]
	}
	return lists
}

// labelProbes has the calls of all functions of labels; the names of the lists are their indices.
func labelProbes(lists [][]impl.Label) []probe {
	var list []probe
	for i, labels := range lists {
		arg := "labels " + fmt.Sprint(i)
		list = append(list, probe{"ValidLabels " + arg, func() string { return told(impl.ValidLabels(labels)) }})
		for _, places := range [][]int64{nil, {0}, {-1, 2}, make([]int64, min(len(labels), maxLabels)), allLeftOut(len(labels)), {math.MinInt64, math.MaxInt64}} {
			for _, x := range callsOfPlaces(places) {
				list = append(list, probe{x.name + " " + arg, func() string { return told(x.call(labels)...) }})
			}
		}
		for _, x := range callsOfLabels()[:2] {
			list = append(list, probe{x.name + " " + arg, func() string { return told(x.call(labels)...) }})
		}
		for k := range min(len(labels), maxLabels) {
			other := lists[(i+k)%len(lists)]
			for _, y := range []int64{math.MinInt64, -1, 0, 3, maxAlong, maxAlong + 1, math.MaxInt64} {
				for _, b := range append(other[:min(len(other), 1):min(len(other), 1)], labels[0]) {
					all := arg + " " + fmt.Sprint(k, y, b.Row, b.Width, b.Weight, len(b.Starts))
					list = append(list, probe{"LabelsMeet " + all, func() string { return told(impl.LabelsMeet(labels[k], b, 5, y)) }})
				}
			}
		}
	}
	return list
}

// probePlaces returns places of labels, and lists that are none; each has some capacity behind its end.
func probePlaces() [][]int64 {
	r := rand.New(rand.NewSource(55))
	lists := [][]int64{nil, {}, {-2}, {0, 3}, {math.MinInt64, math.MaxInt64}, make([]int64, 100000), allLeftOut(100000)}
	for many := range maxLabels + 2 {
		lists = append(lists, make([]int64, many), allLeftOut(many), slices.Repeat([]int64{1}, many))
	}
	for _, list := range labelLists()[:200] {
		lists = append(lists, drawnPlaces(r, list))
	}
	for i, places := range lists {
		lists[i] = append(slices.Clone(places), 0, math.MinInt64)[:len(places)]
	}
	return lists
}

// placesProbes has the calls of all functions with places; the names of the lists are their indices.
func placesProbes(lists [][]int64) []probe {
	var list []probe
	for i, places := range lists {
		for k, labels := range append(listsForErrors(), []impl.Label{{}}, []impl.Label{tens(1, 0), {}}) {
			for _, x := range callsOfPlaces(places) {
				list = append(list, probe{fmt.Sprint(x.name, " places ", i, " labels ", k), func() string { return told(x.call(labels)...) }})
			}
		}
	}
	return list
}

// probeGrids returns grids, and rows that are none, some of them much too many or too long; each list has some capacity behind its end.
func probeGrids() [][]string {
	var lists [][]string
	for i, rows := range slices.Concat(gridsForErrors(), grids(), wrongGrids()) {
		if i < 60 || i%5 == 0 {
			lists = append(lists, append(slices.Clone(rows), "a.b", "A", strings.Repeat("a", 100000))[:len(rows)])
		}
	}
	return lists
}

// gridProbes has the calls of all functions of lands; the names of the lists are their indices.
func gridProbes(lists [][]string) []probe {
	calls := callsOfGrids()[:5]
	for _, land := range []string{"a", "b", "z", ".", "", "A", "ab", "é", "\xff", strings.Repeat("a", 100000)} {
		calls = append(calls, callsOfLand(land)...)
		calls = append(calls, callOfGiving("a", land))
	}
	for _, cells := range slices.Concat(turnedArgument.right, turnedArgument.wrong) {
		calls = append(calls, callOfTurning(cells))
	}
	var list []probe
	for i, rows := range lists {
		arg := " grid " + fmt.Sprint(i)
		list = append(list, probe{"ValidGrid" + arg, func() string { return told(impl.ValidGrid(rows)) }})
		for _, x := range calls {
			list = append(list, probe{x.name + arg, func() string { return told(x.call(rows)...) }})
		}
	}
	return list
}

// probePlates returns plates, and lists of names that are none, some of them much too long; each has some capacity behind its end.
func probePlates() [][]string {
	lists := slices.Concat(rightPlates(), [][]string{{"-"}, {"a", "-"}, {"bay", ""}, {"a", "b", "c"}, {"isle", "", "A"}})
	for i, names := range wrongPlates() {
		if i < 6 || i%7 == 0 {
			lists = append(lists, names)
		}
	}
	for i, names := range lists {
		lists[i] = append(slices.Clone(names), "spare", "-", strings.Repeat("a", 100000))[:len(names)]
	}
	return lists
}

// plateProbes has the calls of all functions of plates; the names of the lists are their indices.
func plateProbes(lists [][]string) []probe {
	r := rand.New(rand.NewSource(75))
	var list []probe
	for i, names := range lists {
		arg := " plate " + fmt.Sprint(i)
		list = append(list, probe{"ValidPlate" + arg, func() string { return told(impl.ValidPlate(names)) }})
		for k := range 6 {
			other, third := lists[(i+k)%len(lists)], lists[(i+6*k)%len(lists)]
			all := arg + " " + fmt.Sprint(k)
			list = append(list, probe{"SamePlate" + all, func() string { return told(impl.SamePlate(names, other), impl.SamePlate(other, names)) }})
			var edits []impl.Edit
			if impl.ValidPlate(names) {
				edits = drawnEdits(r, names, 3*k, 2*k)
			}
			for _, x := range callsOfPlates(other, third, edits) {
				list = append(list, probe{x.name + all, func() string { return told(x.call(names)...) }})
			}
		}
	}
	return list
}

// probeEdits returns lists of edits, and lists that are not valid, some of them much too long; each has some capacity behind its end.
func probeEdits() [][]impl.Edit {
	lists := [][]impl.Edit{nil, {}, way(0, "bay", "a", "bay"), way(2, "a", "b", "c", "a"), thereAndBackAgain(maxEdits), rightEdits()[:maxEdits]}
	for i, c := range editCases() {
		if i%5 == 0 {
			lists = append(lists, c.list)
		}
	}
	for i, list := range wrongEditLists() {
		if i < 5 || i%7 == 0 {
			lists = append(lists, list)
		}
	}
	for i, list := range lists {
		lists[i] = append(slices.Clone(list), edit(7, "a", "b"), edit(math.MinInt64, "-", strings.Repeat("a", 100000)))[:len(list)]
	}
	return lists
}

// editProbes has the calls of all functions of edits; the names of the lists are their indices.
func editProbes(lists [][]impl.Edit) []probe {
	var list []probe
	for i, edits := range lists {
		arg := " edits " + fmt.Sprint(i)
		list = append(list, probe{"ValidEdits" + arg, func() string { return told(impl.ValidEdits(edits)) }})
		for k, x := range edits[:min(len(edits), maxEdits)] {
			list = append(list, probe{"EditText" + arg + fmt.Sprint(" ", k), func() string { return told(impl.EditText(x)) }})
		}
		for k, names := range [][]string{nil, plateOf("bay"), plateOf("", "a", "isle"), make([]string, maxEngraved), slices.Repeat(plateOf("a"), maxEngraved), plateOf("-")} {
			for _, x := range callsOfEdits(names) {
				list = append(list, probe{x.name + arg + fmt.Sprint(" plate ", k), func() string { return told(x.call(edits)...) }})
			}
		}
	}
	return list
}

// resultOf makes the call; a panic is an error.
func (x probe) resultOf(t *testing.T) (result string) {
	defer func() {
		if r := recover(); r != nil {
			t.Errorf("%s panics: %v", x.name, r)
		}
	}()
	return x.call()
}

// checkListsStay makes all calls with the lists and looks at the lists, and at what lies behind them.
func checkListsStay[E comparable](t *testing.T, lists [][]E, probesOf func([][]E) []probe) {
	t.Helper()
	var before [][]E
	for _, list := range lists {
		before = append(before, slices.Clone(list[:cap(list)]))
	}
	for _, x := range probesOf(lists) {
		x.resultOf(t)
	}
	for i, list := range lists {
		if !slices.Equal(list[:cap(list)], before[i]) {
			t.Errorf("the list %d was modified", i)
		}
	}
}

// checkCopies makes all calls with the lists and with copies of them that lie in other memory.
func checkCopies[E comparable](t *testing.T, lists [][]E, probesOf func([][]E) []probe) {
	t.Helper()
	var copies [][]E
	for _, list := range lists {
		copies = append(copies, slices.Clip(slices.Clone(list)))
	}
	others := probesOf(copies)
	for i, x := range probesOf(lists) {
		same(t, x.name, others[i].resultOf(t), x.resultOf(t))
	}
}

// checkNewMemory changes a result, with what lies behind it, and asks again.
func checkNewMemory[E comparable](t *testing.T, what string, spoilt E, ask func() []E) {
	t.Helper()
	first, other := ask(), ask()
	want := slices.Clone(first)
	whole := first[:cap(first)]
	for i := range whole {
		whole[i] = spoilt
	}
	if !slices.Equal(other, want) || !slices.Equal(ask(), want) {
		t.Errorf("%s: a change of one result shows in another one", what)
	}
}

// TestEveryFunctionReturnsAndRepeats makes all calls, makes them once more in the reverse order, and then at the same time, so that a
// result that depends on calls before it or beside it is noticed.
func TestEveryFunctionReturnsAndRepeats(t *testing.T) {
	texts := probeTexts()
	copies := make([]string, len(texts))
	for i, s := range texts {
		copies[i] = strings.Clone(s)
	}
	probes := slices.Concat(
		textProbes(texts), numberProbes(), sineProbes(), spotProbes(), goreProbes(), pairProbes(), routeProbes(routeProbeLists()),
		capProbes(), discProbes(probeSpotLists()), chainProbes(probeChains()), pickProbes(probePoints()), mapProbes(), boxProbes(mapProbeLists()),
		borderProbes(probeBorders()), colourProbes(probeLandNumbers()), joinProbes(probeChainsOfJoins()), joinListProbes(probeChainLists()),
		labelProbes(probeLabelLists()), placesProbes(probePlaces()), gridProbes(probeGrids()), plateProbes(probePlates()), editProbes(probeEdits()))
	first := make([]string, len(probes))
	for i, x := range probes {
		first[i] = x.resultOf(t)
	}
	for i, x := range slices.Backward(probes) {
		same(t, x.name, x.resultOf(t), first[i])
	}
	var all sync.WaitGroup
	for k := range 4 {
		all.Go(func() {
			for i := k; i < len(probes); i += 4 {
				same(t, probes[i].name, probes[i].resultOf(t), first[i])
			}
		})
	}
	all.Wait()
	if !slices.Equal(texts, copies) {
		t.Error("a text was modified")
	}
}

func TestEqualTextsHaveEqualResults(t *testing.T) {
	texts := probeTexts()
	copies := make([]string, len(texts))
	for i, s := range texts {
		copies[i] = strings.Clone("x" + s)[1:]
	}
	others := textProbes(copies)
	for i, x := range textProbes(texts) {
		same(t, x.name, others[i].resultOf(t), x.resultOf(t))
	}
}

// TestWordsAreNewMemory changes a result, with what lies behind it, and asks again.
func TestWordsAreNewMemory(t *testing.T) {
	for _, s := range []string{"a", "a b", " sine 108000 ", strings.Repeat("b ", 100)} {
		first := impl.SplitWords(s)
		other := impl.SplitWords(s)
		want := slices.Clone(first)
		spoilt := first[:cap(first)]
		for i := range spoilt {
			spoilt[i] = "spoilt"
		}
		if !slices.Equal(other, want) || !slices.Equal(impl.SplitWords(s), want) {
			t.Errorf("SplitWords %s: a change of one result shows in another one", quoted(s))
		}
	}
}

// TestTablesAreNewMemory changes a table, with what lies behind it, and asks again.
func TestTablesAreNewMemory(t *testing.T) {
	for _, x := range [][2]int64{{108000, 3}, {1, 1}, {quarter, 100}, {900, 99}} {
		first, _ := impl.SineTable(x[0], x[1])
		other, _ := impl.SineTable(x[0], x[1])
		worst, _ := impl.WorstStep(x[0], x[1])
		want := slices.Clone(first)
		spoilt := first[:cap(first)]
		for i := range spoilt {
			spoilt[i] = -7 * int64(i+1)
		}
		again, _ := impl.SineTable(x[0], x[1])
		if !slices.Equal(other, want) || !slices.Equal(again, want) {
			t.Errorf("SineTable %v: a change of one result shows in another one", x)
		}
		worstAgain, _ := impl.WorstStep(x[0], x[1])
		same(t, "WorstStep after a change of a table", worstAgain, worst)
	}
}

// TestListsOfSpotsAreNotModified looks at what lies behind a list as well.
func TestListsOfSpotsAreNotModified(t *testing.T) {
	for i, list := range probeSpotLists() {
		whole := list[:cap(list)]
		before := slices.Clone(whole)
		for _, gores := range goreProbeNumbers() {
			impl.GoresTouched(gores, list)
			if !slices.Equal(whole, before) {
				t.Errorf("GoresTouched %d: the list %d was modified", gores, i)
			}
		}
	}
}

// Equal lists are told equal gores, whatever memory they lie in.
func TestEqualListsHaveEqualGores(t *testing.T) {
	for i, list := range probeSpotLists() {
		for _, gores := range goreProbeNumbers() {
			what := fmt.Sprint("GoresTouched ", gores, " list ", i)
			same(t, what, told(impl.GoresTouched(gores, slices.Clip(slices.Clone(list)))), told(impl.GoresTouched(gores, list)))
		}
	}
	for _, gores := range goreProbeNumbers() {
		none, code := impl.GoresTouched(gores, nil)
		empty, other := impl.GoresTouched(gores, []impl.Spot{})
		same(t, "gores of no places", len(none)+len(empty), 0)
		same(t, "GoresTouched of no places", code, other)
	}
}

func TestGoresAreNewMemory(t *testing.T) {
	spots := drawnSpots()[:100]
	for _, gores := range rightGores() {
		checkNewMemory(t, fmt.Sprint("GoreWidths ", gores), -7, func() []int64 {
			widths, _ := impl.GoreWidths(gores, 1000, leastStep)
			return widths
		})
		checkNewMemory(t, fmt.Sprint("GoresTouched ", gores), -7, func() []int64 {
			touched, _ := impl.GoresTouched(gores, spots)
			return touched
		})
		same(t, "ValidGores after a change", impl.ValidGores(gores), true)
	}
}

func TestRoutesDoNotModifyLists(t *testing.T) {
	checkListsStay(t, routeProbeLists(), routeProbes)
}

func TestEqualListsHaveEqualRoutes(t *testing.T) {
	checkCopies(t, routeProbeLists(), routeProbes)
}

func TestRoutesAreNewMemory(t *testing.T) {
	for i, list := range drawnSpotLists() {
		checkNewMemory(t, fmt.Sprint("SpotsWithin of the list ", i), -7, func() []int64 {
			near, _ := impl.SpotsWithin(list, impl.Spot{}, half)
			return near
		})
		checkNewMemory(t, fmt.Sprint("ShortestRoute of the list ", i), -7, func() []int64 {
			order, _, _ := impl.ShortestRoute(list)
			return order
		})
	}
}

// TestRowsOfDistancesAreNewMemory changes one row after the other, with what lies behind it, and looks at the other rows and at other tables.
func TestRowsOfDistancesAreNewMemory(t *testing.T) {
	for i, list := range drawnSpotLists() {
		first, _ := impl.DistanceTable(list)
		other, _ := impl.DistanceTable(list)
		want := ruleTable(list)
		for k, row := range first {
			if !slices.Equal(row, want[k]) {
				t.Errorf("DistanceTable of the list %d: the row %d shows a change of another one", i, k)
			}
			spoilt := row[:cap(row)]
			for j := range spoilt {
				spoilt[j] = -7
			}
		}
		spoiltTable := first[:cap(first)]
		for k := range spoiltTable {
			spoiltTable[k] = nil
		}
		checkTable(t, list, want)
		if !slices.EqualFunc(other, want, slices.Equal) {
			t.Errorf("DistanceTable of the list %d: a change of one table shows in another one", i)
		}
	}
}

func TestCapsDoNotModifyLists(t *testing.T) {
	checkListsStay(t, probeSpotLists(), discProbes)
}

func TestEqualListsHaveEqualPlacesUnderACap(t *testing.T) {
	checkCopies(t, probeSpotLists(), discProbes)
	same(t, "UnderCap of no places", told(impl.UnderCap(360, 20, nil)), told(impl.UnderCap(360, 20, []impl.Spot{})))
}

func TestCapsAreNewMemory(t *testing.T) {
	for _, x := range [][2]int64{{20, 8}, {60, 1}, {1, 1}, {maxRadius, maxRadius}} {
		checkNewMemory(t, fmt.Sprint("RingsOf ", x), -7, func() []int64 {
			rings, _ := impl.RingsOf(x[0], x[1])
			return rings
		})
	}
	spots := drawnSpots()[50:150]
	for _, x := range [][2]int64{{360, 90}, {1000, 77}, {1000, 0}} {
		checkNewMemory(t, fmt.Sprint("UnderCap ", x), -7, func() []int64 {
			under, _ := impl.UnderCap(x[0], x[1], spots)
			return under
		})
	}
}

func TestOutlinesDoNotModifyLists(t *testing.T) {
	checkListsStay(t, probeChains(), chainProbes)
	checkListsStay(t, probePoints(), pickProbes)
	for _, points := range [][]int64{{0, 1}, {0, 2, 3}, {0, 0}, nil} {
		checkListsStay(t, probeChains(), func(chains [][]impl.Place) []probe {
			var list []probe
			for i, chain := range chains {
				list = append(list, probe{fmt.Sprint("PickPoints ", i), func() string { return told(impl.PickPoints(chain, points)) }})
			}
			return list
		})
	}
}

func TestEqualChainsHaveEqualResults(t *testing.T) {
	checkCopies(t, probeChains(), chainProbes)
	checkCopies(t, probePoints(), pickProbes)
}

func TestOutlinesAreNewMemory(t *testing.T) {
	spoilt := impl.Place{X: -7, Y: -7}
	for i, chain := range allChains() {
		checkNewMemory(t, fmt.Sprint("FewestPoints of the chain ", i), -7, func() []int64 {
			points, _ := impl.FewestPoints(chain, 3)
			return points
		})
		checkNewMemory(t, fmt.Sprint("LongSteps of the chain ", i), -7, func() []int64 {
			points, _ := impl.LongSteps(chain, 3)
			return points
		})
		checkNewMemory(t, fmt.Sprint("PickPoints of the chain ", i), spoilt, func() []impl.Place {
			picked, _ := impl.PickPoints(chain, allPoints(len(chain)))
			return picked
		})
		checkNewMemory(t, fmt.Sprint("ReverseChain of the chain ", i), spoilt, func() []impl.Place {
			back, _ := impl.ReverseChain(chain)
			return back
		})
	}
}

func TestMapsDoNotModifyLists(t *testing.T) {
	checkListsStay(t, mapProbeLists(), boxProbes)
}

func TestEqualListsHaveEqualMaps(t *testing.T) {
	checkCopies(t, mapProbeLists(), boxProbes)
	for _, wave := range bothKinds() {
		same(t, "BestScale of no places", told(impl.BestScale(nil, 0, wave)), told(impl.BestScale([]impl.Spot{}, 0, wave)))
		same(t, "FlatBox of no places", told(impl.FlatBox(nil, 1, wave)), told(impl.FlatBox([]impl.Spot{}, 1, wave)))
	}
}

func TestColoursDoNotModifyLists(t *testing.T) {
	checkListsStay(t, probeBorders(), borderProbes)
	checkListsStay(t, probeLandNumbers(), colourProbes)
}

func TestEqualBordersHaveEqualColours(t *testing.T) {
	checkCopies(t, probeBorders(), borderProbes)
	checkCopies(t, probeLandNumbers(), colourProbes)
	for _, call := range callsOfCountries() {
		for _, lands := range []int64{1, 2, 3, 5, maxLands} {
			same(t, call.name+" without borders", told(call.call(country{lands, []impl.Border{}})...), told(call.call(country{lands, nil})...))
		}
	}
}

// TestColoursAreNewMemory looks at the argument of SwapColours as well: the changes of the results must not show there.
func TestColoursAreNewMemory(t *testing.T) {
	for _, c := range append(bigCountries(), smallCountries(3)...) {
		checkNewMemory(t, fmt.Sprint("NeighboursOf ", c), -7, func() []int64 {
			neighbours, _ := impl.NeighboursOf(c.lands, c.list, c.lands-1)
			return neighbours
		})
		checkNewMemory(t, fmt.Sprint("FirstColours ", c), -7, func() []int64 {
			colours, _ := impl.FirstColours(c.lands, c.list, maxColours)
			return colours
		})
		order := allPoints(int(c.lands))
		checkNewMemory(t, fmt.Sprint("GreedyColours ", c), -7, func() []int64 {
			colours, _ := impl.GreedyColours(c.lands, c.list, order)
			return colours
		})
		colours := c.ruleGreedy(order)
		checkNewMemory(t, fmt.Sprint("SwapColours ", c), -7, func() []int64 {
			swapped, _ := impl.SwapColours(c.lands, c.list, colours, 0, maxLands-1)
			return swapped
		})
		checkNewMemory(t, fmt.Sprint("HardBorders ", c), -7, func() []int64 {
			hard, _ := impl.HardBorders(c.lands, c.list)
			return hard
		})
		if !slices.Equal(order, allPoints(int(c.lands))) || !slices.Equal(colours, c.ruleGreedy(order)) {
			t.Errorf("%v: a change of a result shows in an argument", c)
		}
	}
}

func TestJoinsDoNotModifyChains(t *testing.T) {
	checkListsStay(t, probeChainsOfJoins(), joinProbes)
}

func TestEqualChainsAreJoinedEqually(t *testing.T) {
	checkCopies(t, probeChainsOfJoins(), joinProbes)
	for i, list := range probeChainLists() {
		var other [][]impl.Place
		for _, chain := range list {
			other = append(other, slices.Clip(slices.Clone(chain)))
		}
		for _, x := range callsOfChainLists() {
			same(t, fmt.Sprint(x.name, " of a copy of the list ", i), told(x.call(other)...), told(x.call(list)...))
		}
	}
	for _, x := range callsOfChainLists() {
		same(t, x.name+" of no chains", told(x.call(nil)...), told(x.call([][]impl.Place{})...))
	}
}

// TestJoinsDoNotModifyListsOfChains looks at the places, at where the chains lie, and at what lies behind them and behind the list.
func TestJoinsDoNotModifyListsOfChains(t *testing.T) {
	for i, list := range probeChainLists() {
		whole := list[:cap(list)]
		before := slices.Clone(whole)
		var places [][]impl.Place
		for _, chain := range whole {
			places = append(places, slices.Clone(chain[:cap(chain)]))
		}
		for _, x := range joinListProbes([][][]impl.Place{list}) {
			x.resultOf(t)
		}
		for k, chain := range whole {
			if len(chain) != len(before[k]) || cap(chain) != cap(before[k]) || cap(chain) > 0 && &chain[:1][0] != &before[k][:1][0] || !slices.Equal(chain[:cap(chain)], places[k]) {
				t.Errorf("the chain %d of the list %d was modified", k, i)
			}
		}
	}
}

// TestJoinsAreNewMemory looks at the arguments as well: the changes of the results must not show there.
func TestJoinsAreNewMemory(t *testing.T) {
	spoilt := impl.Place{X: -7, Y: -7}
	for i, chain := range slices.Concat(closedChains(), openChains()) {
		before := slices.Clone(chain)
		checkNewMemory(t, fmt.Sprint("LeftTurned of the chain ", i), spoilt, func() []impl.Place {
			turned, _ := impl.LeftTurned(chain)
			return turned
		})
		checkNewMemory(t, fmt.Sprint("MoveChain of the chain ", i), spoilt, func() []impl.Place {
			moved, _ := impl.MoveChain(chain, 0, 0)
			return moved
		})
		for _, other := range [][]impl.Place{chain, {chain[0], {X: 99}}, {{X: 99}, chain[0]}, {chain[len(chain)-1], {X: 99}}, {{X: 99}, chain[len(chain)-1]}} {
			otherBefore := slices.Clone(other)
			checkNewMemory(t, fmt.Sprint("JoinTwo of the chain ", i), spoilt, func() []impl.Place {
				joined, _ := impl.JoinTwo(chain, other)
				return joined
			})
			if !slices.Equal(other, otherBefore) {
				t.Errorf("the chain %d: a change of a result shows in an argument", i)
			}
		}
		if !slices.Equal(chain, before) {
			t.Errorf("the chain %d: a change of a result shows in an argument", i)
		}
	}
	for i, list := range chainLists() {
		checkNewMemory(t, fmt.Sprint("LooseEnds of the list ", i), spoilt, func() []impl.Place {
			ends, _ := impl.LooseEnds(list)
			return ends
		})
	}
}

// TestJoinedChainsAreNewMemory changes one chain after the other, with what lies behind it, and looks at the other ones, at other results and
// at the argument.
func TestJoinedChainsAreNewMemory(t *testing.T) {
	for i, list := range chainLists() {
		want := ruleJoinAll(list)
		first, _ := impl.JoinAll(list)
		other, _ := impl.JoinAll(list)
		for k, chain := range first {
			if !slices.Equal(chain, want[k]) {
				t.Errorf("JoinAll of the list %d: the chain %d shows a change of another one", i, k)
			}
			spoilt := chain[:cap(chain)]
			for j := range spoilt {
				spoilt[j] = impl.Place{X: -7, Y: -7}
			}
		}
		spoiltList := first[:cap(first)]
		for k := range spoiltList {
			spoiltList[k] = nil
		}
		if !slices.EqualFunc(other, want, slices.Equal) {
			t.Errorf("JoinAll of the list %d: a change of one result shows in another one", i)
		}
		checkJoinedAll(t, list, want...)
		if !slices.EqualFunc(list, chainLists()[i], slices.Equal) {
			t.Errorf("JoinAll of the list %d: a change of a result shows in the argument", i)
		}
	}
}

func TestPlacesOfLabelsAreNotModified(t *testing.T) {
	checkListsStay(t, probePlaces(), placesProbes)
}

func TestEqualLabelsHaveEqualPlaces(t *testing.T) {
	checkCopies(t, probePlaces(), placesProbes)
	var copies [][]impl.Label
	for _, list := range probeLabelLists() {
		other := slices.Clip(slices.Clone(list))
		for i, l := range other {
			other[i].Starts = slices.Clip(slices.Clone(l.Starts))
		}
		copies = append(copies, other)
	}
	others := labelProbes(copies)
	for i, x := range labelProbes(probeLabelLists()) {
		same(t, x.name, others[i].resultOf(t), x.resultOf(t))
	}
	for _, x := range slices.Concat(callsOfLabels(), callsOfPlaces(nil)) {
		same(t, x.name+" of no labels", told(x.call(nil)...), told(x.call([]impl.Label{})...))
	}
	for i, x := range callsOfPlaces(nil) {
		same(t, x.name+" of no places", told(x.call(nil)...), told(callsOfPlaces([]int64{})[i].call(nil)...))
	}
}

// TestLabelsAreNotModified looks at the labels, at where their Starts lie, and at what lies behind them and behind the list.
func TestLabelsAreNotModified(t *testing.T) {
	lists := probeLabelLists()
	var before [][]impl.Label
	for _, list := range lists {
		whole := slices.Clone(list[:cap(list)])
		for i, l := range whole {
			whole[i].Starts = slices.Clone(l.Starts[:cap(l.Starts)])
		}
		before = append(before, whole)
	}
	wholes := make([][]impl.Label, len(lists))
	for i, list := range lists {
		wholes[i] = slices.Clone(list[:cap(list)])
	}
	for _, x := range labelProbes(lists) {
		x.resultOf(t)
	}
	for i, list := range lists {
		for k, l := range list[:cap(list)] {
			old := wholes[i][k]
			isMoved := len(l.Starts) != len(old.Starts) || cap(l.Starts) != cap(old.Starts) || cap(l.Starts) > 0 && &l.Starts[:1][0] != &old.Starts[:1][0]
			isOther := l.Row != old.Row || l.Width != old.Width || l.Weight != old.Weight
			if isMoved || isOther || !slices.Equal(l.Starts[:cap(l.Starts)], before[i][k].Starts) {
				t.Errorf("the label %d of the list %d was modified", k, i)
			}
		}
	}
}

// TestPlacesOfLabelsAreNewMemory looks at the arguments as well: the changes of the results must not show there.
func TestPlacesOfLabelsAreNewMemory(t *testing.T) {
	r := rand.New(rand.NewSource(56))
	for i, list := range labelLists() {
		places := drawnPlaces(r, list)
		before := slices.Clone(places)
		checkNewMemory(t, fmt.Sprint("BestPlaces of the list ", i), -7, func() []int64 {
			best, _, _ := impl.BestPlaces(list)
			return best
		})
		checkNewMemory(t, fmt.Sprint("GreedyPlaces of the list ", i), -7, func() []int64 {
			greedy, _ := impl.GreedyPlaces(list)
			return greedy
		})
		checkNewMemory(t, fmt.Sprint("LeftOut of the list ", i), -7, func() []int64 {
			out, _ := impl.LeftOut(list, places)
			return out
		})
		if !slices.Equal(places, before) || !slices.EqualFunc(list, labelLists()[i], sameLabel) {
			t.Errorf("the list %d: a change of a result shows in an argument", i)
		}
	}
}

func sameLabel(a, b impl.Label) bool {
	return a.Row == b.Row && a.Width == b.Width && a.Weight == b.Weight && slices.Equal(a.Starts, b.Starts)
}

func TestGridsAreNotModified(t *testing.T) {
	checkListsStay(t, probeGrids(), gridProbes)
}

// TestEqualGridsHaveEqualLands has the rows themselves in other memory as well.
func TestEqualGridsHaveEqualLands(t *testing.T) {
	checkCopies(t, probeGrids(), gridProbes)
	var copies [][]string
	for _, rows := range probeGrids() {
		var other []string
		for _, row := range rows {
			other = append(other, ("x" + row)[1:])
		}
		copies = append(copies, other)
	}
	others := gridProbes(copies)
	for i, x := range gridProbes(probeGrids()) {
		same(t, x.name, others[i].resultOf(t), x.resultOf(t))
	}
	for _, x := range callsOfGrids() {
		same(t, x.name+" of no rows", told(x.call(nil)...), told(x.call([]string{})...))
	}
}

// TestGridsAreNewMemory looks at the argument as well: the changes of the results must not show there, also if the grid stays as it is.
func TestGridsAreNewMemory(t *testing.T) {
	for i, rows := range grids() {
		before := slices.Clone(rows)
		checkNewMemory(t, fmt.Sprint("GridBorders of the grid ", i), "spoilt", func() []string {
			borders, _ := impl.GridBorders(rows)
			return borders
		})
		for _, cells := range []int64{0, 1, int64(len(rows[0]))} {
			checkNewMemory(t, fmt.Sprint("TurnGrid of the grid ", i, " by ", cells), "spoilt", func() []string {
				turned, _ := impl.TurnGrid(rows, cells)
				return turned
			})
		}
		lands, _ := impl.LandsOf(rows)
		for k := range len(lands) {
			for _, to := range []string{".", "k", lands[k : k+1]} {
				checkNewMemory(t, fmt.Sprint("GiveLand of the grid ", i, " to ", to), "spoilt", func() []string {
					given, _ := impl.GiveLand(rows, lands[k:k+1], to)
					return given
				})
			}
		}
		if !slices.Equal(rows, before) {
			t.Errorf("the grid %d: a change of a result shows in the argument", i)
		}
	}
}

func TestPlatesAndEditsAreNotModified(t *testing.T) {
	checkListsStay(t, probePlates(), plateProbes)
	checkListsStay(t, probeEdits(), editProbes)
}

func TestEqualPlatesHaveEqualEdits(t *testing.T) {
	checkCopies(t, probePlates(), plateProbes)
	checkCopies(t, probeEdits(), editProbes)
	for _, x := range callsOfPlates(plateOf("a"), plateOf("b"), nil) {
		same(t, x.name+" without places", told(x.call(nil)...), told(x.call([]string{})...))
	}
	for _, names := range rightPlates() {
		for _, x := range callsOfEdits(names) {
			same(t, x.name+" without edits", told(x.call(nil)...), told(x.call([]impl.Edit{})...))
		}
	}
}

// TestPlatesAreNewMemory looks at the arguments as well: the changes of the results must not show there, also if nothing is corrected.
func TestPlatesAreNewMemory(t *testing.T) {
	for i, c := range editCases() {
		names, list := slices.Clone(c.names), slices.Clone(c.list)
		for _, edits := range [][]impl.Edit{nil, list} {
			checkNewMemory(t, fmt.Sprint("ApplyEdits of the case ", i), "spoilt", func() []string {
				after, _ := impl.ApplyEdits(names, edits)
				return after
			})
			checkNewMemory(t, fmt.Sprint("UndoEdits of the case ", i), "spoilt", func() []string {
				before, _ := impl.UndoEdits(names, edits)
				return before
			})
		}
		checkNewMemory(t, fmt.Sprint("ShortEdits of the case ", i), edit(-7, "spoilt", ""), func() []impl.Edit {
			short, _ := impl.ShortEdits(list)
			return short
		})
		if !slices.Equal(names, c.names) || !slices.Equal(list, c.list) {
			t.Errorf("the case %d: a change of a result shows in an argument", i)
		}
	}
}

func TestMergedPlatesAreNewMemory(t *testing.T) {
	for i, x := range plateTriples() {
		before := [3][]string{slices.Clone(x[0]), slices.Clone(x[1]), slices.Clone(x[2])}
		// The last two of these have the corrections of one plate only.
		for _, plates := range [][3][]string{x, {x[0], x[1], x[1]}, {x[0], x[0], x[1]}, {x[0], x[1], x[0]}} {
			checkNewMemory(t, fmt.Sprint("ConflictsOf of the plates ", i), -7, func() []int64 {
				conflicts, _ := impl.ConflictsOf(plates[0], plates[1], plates[2])
				return conflicts
			})
			checkNewMemory(t, fmt.Sprint("MergePlates of the plates ", i), "spoilt", func() []string {
				merged, _ := impl.MergePlates(plates[0], plates[1], plates[2])
				return merged
			})
		}
		checkNewMemory(t, fmt.Sprint("EditsBetween of the plates ", i), edit(-7, "spoilt", ""), func() []impl.Edit {
			list, _ := impl.EditsBetween(x[0], x[1])
			return list
		})
		if !slices.EqualFunc(x[:], before[:], slices.Equal) {
			t.Errorf("the plates %d: a change of a result shows in an argument", i)
		}
	}
}

// TestNoGoroutineStays waits a little for goroutines that are just ending.
func TestNoGoroutineStays(t *testing.T) {
	before := runtime.NumGoroutine()
	for _, x := range slices.Concat(chainProbes(probeChains()), pickProbes(probePoints()), borderProbes(probeBorders())) {
		x.resultOf(t)
	}
	for range 1000 {
		if runtime.NumGoroutine() <= before {
			return
		}
		time.Sleep(time.Millisecond)
	}
	t.Errorf("%d goroutines are left, of %d before the calls", runtime.NumGoroutine(), before)
}
