package tests

import (
	"fmt"
	"math/rand"
	"slices"
	"strings"
	"testing"

	"loop.example/g01055/impl"
)

func turnedGrid(t *testing.T, rows []string, cells int64) []string {
	t.Helper()
	turned, code := impl.TurnGrid(rows, cells)
	same(t, fmt.Sprintf("TurnGrid %q %d", rows, cells), code, impl.OK)
	return turned
}

// turnsOf has the turns that put each cell of a row at each of its places, and the greatest ones.
func turnsOf(rows []string) []int64 {
	turns := []int64{-maxTurned, maxTurned}
	for cells := -len(rows[0]); cells <= len(rows[0])+1; cells++ {
		turns = append(turns, int64(cells))
	}
	return turns
}

func TestTurnedGridsHaveTheSameLandsBordersAndCoasts(t *testing.T) {
	for _, rows := range grids() {
		want := atlasOf(t, rows)
		for _, cells := range turnsOf(rows) {
			turned := turnedGrid(t, rows, cells)
			same(t, fmt.Sprintf("ValidGrid %q", turned), impl.ValidGrid(turned), true)
			same(t, fmt.Sprintf("what is told of %q, turned by %d", rows, cells), atlasOf(t, turned), want)
		}
	}
}

// A grid with one other cell has other numbers of cells, however it is turned.
func TestOtherGridsHaveOtherLands(t *testing.T) {
	r := rand.New(rand.NewSource(61))
	for _, rows := range grids() {
		before := atlasOf(t, rows)
		at := cellAt{r.Intn(len(rows)), r.Intn(len(rows[0]))}
		other := painted(len(rows), len(rows[0]), func(row, column int) byte {
			if (cellAt{row, column}) != at {
				return rows[row][column]
			}
			return "ab"[strings.Count(rows[row][column:column+1], "a")]
		})
		if after := atlasOf(t, turnedGrid(t, other, r.Int63n(2*maxTurned+1)-maxTurned)); after.lands == before.lands {
			t.Errorf("%q and %q: got %s for both", rows, other, after.lands)
		}
	}
}

func TestTurnsAddUp(t *testing.T) {
	r := rand.New(rand.NewSource(62))
	for _, rows := range grids() {
		wide := int64(len(rows[0]))
		for range 10 {
			one := r.Int63n(maxTurned+1) - maxTurned/2
			other := r.Int63n(maxTurned+1) - maxTurned/2
			turned := turnedGrid(t, rows, one)
			checkTurnedGrid(t, turned, -one, rows...)
			checkTurnedGrid(t, turned, other, turnedGrid(t, rows, one+other)...)
			checkTurnedGrid(t, turned, wide, turned...)
			checkTurnedGrid(t, turned, -wide, turned...)
		}
		// By one cell again and again, once around.
		turned := rows
		for range wide {
			turned = turnedGrid(t, turned, 1)
		}
		checkList(t, fmt.Sprintf("%q after a whole turn", rows), turned, impl.OK, rows...)
	}
}

// Rows are turned on their own, and stay in their order.
func TestRowsAreTurnedOnTheirOwn(t *testing.T) {
	for _, rows := range grids() {
		for _, cells := range []int64{1, -1, 7, -maxTurned} {
			var one []string
			for _, row := range rows {
				one = append(one, turnedGrid(t, rowsOf(row), cells)...)
			}
			checkTurnedGrid(t, rows, cells, one...)
		}
	}
}

// A land that is given away before a turn is given away as it is behind it.
func TestTurnedGridsAreGivenAlike(t *testing.T) {
	for _, rows := range grids() {
		lands, _ := impl.LandsOf(rows)
		for i := range len(lands) {
			for _, to := range []string{".", "k", lands[:1]} {
				given, code := impl.GiveLand(rows, lands[i:i+1], to)
				same(t, fmt.Sprintf("GiveLand %q %c %s", rows, lands[i], to), code, impl.OK)
				checkGiven(t, turnedGrid(t, rows, 5), lands[i:i+1], to, turnedGrid(t, given, 5)...)
			}
		}
	}
}

// A grid that is seen in a mirror, or from its other pole, has the same lands as well.
func TestMirroredGridsHaveTheSameLands(t *testing.T) {
	for _, rows := range grids() {
		want := atlasOf(t, rows)
		high, wide := len(rows), len(rows[0])
		checkAtlas(t, painted(high, wide, func(row, column int) byte { return rows[row][wide-1-column] }), want)
		checkAtlas(t, painted(high, wide, func(row, column int) byte { return rows[high-1-row][column] }), want)
	}
}

// A grid that is laid twice beside itself has twice the cells and the coasts, the same borders, and no fewer seas.
func TestGridsBesideThemselves(t *testing.T) {
	for _, rows := range grids() {
		if 2*len(rows[0]) > maxGridWide {
			continue
		}
		var twice []string
		for _, row := range rows {
			twice = append(twice, row+row)
		}
		one, two := atlasOf(t, rows), atlasOf(t, twice)
		what := fmt.Sprintf("%q beside itself: ", rows)
		same(t, what+"borders", two.borders, one.borders)
		same(t, what+"landlocked", two.landlocked, one.landlocked)
		same(t, what+"greatest", two.greatest, one.greatest)
		same(t, what+"seas", two.seas >= one.seas && two.seas <= 2*one.seas, true)
		lands, _ := impl.LandsOf(rows)
		for i := range len(lands) {
			land := lands[i : i+1]
			cells, _ := impl.CellsOf(rows, land)
			coast, _ := impl.CoastOf(rows, land)
			same(t, what+"cells of "+land, resultOf(impl.CellsOf(twice, land)), result{2 * cells, impl.OK})
			same(t, what+"coast of "+land, resultOf(impl.CoastOf(twice, land)), result{2 * coast, impl.OK})
		}
	}
}

// All cells belong to a land or to the sea, each land has parts, and no more of them than cells, and a land has a border, a coast, or all cells.
func TestLandsFillTheGrid(t *testing.T) {
	for _, rows := range grids() {
		what := fmt.Sprintf("%q: ", rows)
		whole := strings.Join(rows, "")
		lands, _ := impl.LandsOf(rows)
		borders, _ := impl.GridBorders(rows)
		landlocked, _ := impl.LandlockedOf(rows)
		sum := int64(strings.Count(whole, "."))
		for i := range len(lands) {
			land := lands[i : i+1]
			cells, _ := impl.CellsOf(rows, land)
			islands, _ := impl.IslandsOf(rows, land)
			coast, _ := impl.CoastOf(rows, land)
			sum += cells
			same(t, what+"islands of "+land, islands >= 1 && islands <= cells, true)
			same(t, what+"landlocked "+land, strings.Contains(landlocked, land), coast == 0)
			hasBorder := slices.ContainsFunc(borders, func(pair string) bool { return strings.Contains(pair, land) })
			same(t, what+"beside "+land, hasBorder || coast > 0, cells < int64(len(whole)))
		}
		same(t, what+"cells", sum, int64(len(whole)))
	}
}

// The sea has as many parts as a land would have in its place.
func TestSeasArePartsAsLandsAre(t *testing.T) {
	for _, rows := range grids() {
		if strings.Contains(strings.Join(rows, ""), "k") {
			continue
		}
		filled := painted(len(rows), len(rows[0]), func(row, column int) byte { return strings.ReplaceAll(rows[row], ".", "k")[column] })
		seas, code := impl.SeasOf(rows)
		same(t, fmt.Sprintf("SeasOf %q", rows), code, impl.OK)
		if seas == 0 {
			checkRefused(t, fmt.Sprintf("IslandsOf %q", filled), resultsOf(impl.IslandsOf(filled, "k")), impl.ErrNotFound)
		} else {
			same(t, fmt.Sprintf("IslandsOf %q", filled), resultOf(impl.IslandsOf(filled, "k")), result{seas, impl.OK})
			checkGiven(t, filled, "k", ".", rows...)
		}
		same(t, fmt.Sprintf("SeasOf %q", filled), resultOf(impl.SeasOf(filled)), result{0, impl.OK})
	}
}
