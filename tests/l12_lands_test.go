package tests

import (
	"fmt"
	"math"
	"math/rand"
	"slices"
	"strings"
	"testing"

	"loop.example/g01055/impl"
)

const (
	maxGridRows = 16
	maxGridWide = 32
	maxTurned   = 1000
	allLetters  = "abcdefghijklmnopqrstuvwxyz"
)

// turnedArgument has numbers of cells by which a grid is turned, with their limits, and one beyond each.
var turnedArgument = argument{
	[]int64{0, 1, -1, 2, -2, 3, -3, 5, -31, 32, 33, 999, -999, maxTurned, -maxTurned},
	[]int64{maxTurned + 1, -maxTurned - 1, 2 * maxTurned, 1 << 32, -1 << 32, math.MinInt64, math.MinInt64 + 1, math.MaxInt64 - 1, math.MaxInt64},
}

func rowsOf(rows ...string) []string { return rows }

func gridOfExample() []string { return rowsOf("a.ab") }

// An atlas has all that is told of a grid.
type atlas struct {
	// lands has for each land its letter, its number of cells, that of its parts, and its coast.
	lands      string
	borders    string
	seas       int64
	landlocked string
	greatest   string
}

// An atlasCase is a grid with what is told of it.
type atlasCase struct {
	rows []string
	want atlas
}

func landText(land byte, cells, islands, coast int64) string {
	return fmt.Sprintf("%c %d %d %d", land, cells, islands, coast)
}

// atlasOf asks for all of it.
func atlasOf(t *testing.T, rows []string) atlas {
	t.Helper()
	number := func(n, code int64) int64 {
		t.Helper()
		same(t, fmt.Sprintf("the code of a number of %q", rows), code, impl.OK)
		return n
	}
	text := func(s string, code int64) string {
		t.Helper()
		same(t, fmt.Sprintf("the code of letters of %q", rows), code, impl.OK)
		return s
	}
	x := atlas{seas: number(impl.SeasOf(rows)), landlocked: text(impl.LandlockedOf(rows))}
	var lands []string
	letters := text(impl.LandsOf(rows))
	for i := range len(letters) {
		land := letters[i : i+1]
		lands = append(lands, landText(land[0], number(impl.CellsOf(rows, land)), number(impl.IslandsOf(rows, land)), number(impl.CoastOf(rows, land))))
	}
	x.lands = strings.Join(lands, ", ")
	borders, code := impl.GridBorders(rows)
	same(t, fmt.Sprintf("GridBorders %q", rows), code, impl.OK)
	x.borders = strings.Join(borders, " ")
	if letters == "" {
		checkRefused(t, fmt.Sprintf("GreatestLand %q", rows), resultsOf(impl.GreatestLand(rows)), impl.ErrNotFound)
	} else {
		x.greatest = text(impl.GreatestLand(rows))
	}
	return x
}

func checkAtlas(t *testing.T, rows []string, want atlas) {
	t.Helper()
	same(t, fmt.Sprintf("ValidGrid %q", rows), impl.ValidGrid(rows), true)
	same(t, fmt.Sprintf("what is told of %q", rows), atlasOf(t, rows), want)
}

func checkAtlases(t *testing.T, cases []atlasCase) {
	t.Helper()
	for _, x := range cases {
		same(t, fmt.Sprintf("the rule of %q", x.rows), ruleAtlas(x.rows), x.want)
		checkAtlas(t, x.rows, x.want)
	}
}

// A cellAt is the place of a cell.
type cellAt struct{ row, column int }

func cellsOf(rows []string) []cellAt {
	var cells []cellAt
	for row := range rows {
		for column := range len(rows[row]) {
			cells = append(cells, cellAt{row, column})
		}
	}
	return cells
}

func kindAt(rows []string, at cellAt) byte { return rows[at.row][at.column] }

// ruleBeside has the neighbours to the east and to the west, and those to the north and to the south that are there.
func ruleBeside(rows []string, at cellAt) []cellAt {
	wide := len(rows[0])
	list := []cellAt{{at.row, (at.column + 1) % wide}, {at.row, (at.column + wide - 1) % wide}}
	for _, row := range []int{at.row - 1, at.row + 1} {
		if row >= 0 && row < len(rows) {
			list = append(list, cellAt{row, at.column})
		}
	}
	return list
}

// ruleMeetings counts, for two kinds, how often a cell of the first one has one of the second one as its neighbour.
func ruleMeetings(rows []string) map[[2]byte]int64 {
	meetings := map[[2]byte]int64{}
	for _, at := range cellsOf(rows) {
		for _, other := range ruleBeside(rows, at) {
			meetings[[2]byte{kindAt(rows, at), kindAt(rows, other)}]++
		}
	}
	return meetings
}

// ruleParts gives each cell a number of its own, and then the least one that a neighbour of its kind has, until nothing changes any more. It
// returns how many numbers are left for each kind.
func ruleParts(rows []string) map[byte]int64 {
	cells := cellsOf(rows)
	var numbers [maxGridRows][maxGridWide]int
	for i, at := range cells {
		numbers[at.row][at.column] = i
	}
	for isDone := false; !isDone; {
		isDone = true
		for _, at := range cells {
			for _, other := range ruleBeside(rows, at) {
				if n := numbers[other.row][other.column]; kindAt(rows, at) == kindAt(rows, other) && n < numbers[at.row][at.column] {
					numbers[at.row][at.column], isDone = n, false
				}
			}
		}
	}
	parts := map[byte]int64{}
	for i, at := range cells {
		if numbers[at.row][at.column] == i {
			parts[kindAt(rows, at)]++
		}
	}
	return parts
}

func ruleAtlas(rows []string) atlas {
	meetings, parts := ruleMeetings(rows), ruleParts(rows)
	x := atlas{seas: parts['.']}
	var lands, borders []string
	most := int64(0)
	for _, letter := range []byte(allLetters) {
		cells := int64(strings.Count(strings.Join(rows, ""), string(letter)))
		if cells == 0 {
			continue
		}
		coast := meetings[[2]byte{letter, '.'}]
		lands = append(lands, landText(letter, cells, parts[letter], coast))
		for _, other := range []byte(allLetters) {
			if other > letter && meetings[[2]byte{letter, other}] > 0 {
				borders = append(borders, string([]byte{letter, other}))
			}
		}
		if coast == 0 {
			x.landlocked += string(letter)
		}
		if cells > most {
			x.greatest, most = string(letter), cells
		}
	}
	x.lands, x.borders = strings.Join(lands, ", "), strings.Join(borders, " ")
	return x
}

// board is a grid of cells that are drawn out of some kinds.
func board(r *rand.Rand, rows, wide int, kinds string) []string {
	list := make([]string, rows)
	for i := range list {
		row := make([]byte, wide)
		for k := range row {
			row[k] = kinds[r.Intn(len(kinds))]
		}
		list[i] = string(row)
	}
	return list
}

// painted is a grid with the cell of a row and a column as told.
func painted(rows, wide int, kind func(row, column int) byte) []string {
	list := make([]string, rows)
	for i := range list {
		row := make([]byte, wide)
		for k := range row {
			row[k] = kind(i, k)
		}
		list[i] = string(row)
	}
	return list
}

// plain is a grid of one kind.
func plain(rows, wide int, kind string) []string {
	return slices.Repeat([]string{strings.Repeat(kind, wide)}, rows)
}

// chequered has two kinds of cells in turn.
func chequered(rows, wide int, kinds string) []string {
	return painted(rows, wide, func(row, column int) byte { return kinds[(row+column)%2] })
}

// helix has a land that goes around the edge again and again on its way to the south.
func helix(rows, wide int) []string {
	return painted(rows, wide, func(row, column int) byte {
		if column == row%wide || column == (row+1)%wide {
			return 'a'
		}
		return '.'
	})
}

// snake has a land that goes to the east and back again and again; a meridian of the sea keeps it from going around.
func snake(rows, wide int) []string {
	return painted(rows, wide, func(row, column int) byte {
		if column > 0 && (row%2 == 0 || row%4 == 1 && column == wide-1 || row%4 == 3 && column == 1) {
			return 'a'
		}
		return '.'
	})
}

// grids has those of all sizes and of all kinds of lands.
func grids() [][]string {
	list := [][]string{gridOfExample(), rowsOf("..aa", "b.ac", "..cc"), plain(maxGridRows, maxGridWide, "."), plain(maxGridRows, maxGridWide, "z")}
	for _, wide := range []int{1, 2, 3, 4, 5, 31, maxGridWide} {
		for _, rows := range []int{1, 2, 3, maxGridRows - 1, maxGridRows} {
			list = append(list, chequered(rows, wide, "a."), chequered(rows, wide, "ba"), helix(rows, wide), snake(rows, wide))
		}
	}
	r := rand.New(rand.NewSource(60))
	for _, kinds := range []string{".", "q", "a.", "ab", "ab.", "a.....", "aaaaa.", "aaaaab", "abc....", "az.", allLetters, allLetters + ".", allLetters + strings.Repeat(".", 26)} {
		for _, rows := range []int{1, 2, 3, 6, maxGridRows} {
			for _, wide := range []int{1, 2, 3, 4, 8, 31, maxGridWide} {
				list = append(list, board(r, rows, wide, kinds))
			}
		}
	}
	return list
}

// wrongCells are bytes beside the letters and the point, and others that are no cells.
func wrongCells() []string {
	return []string{
		"`", "{", "-", "/", ",", " ", "A", "B", "Z", "@", "[", "~", "0", "9", "\x00", "\x01", "\n", "\t", "\x7f", "\x80", "\xae", "\xe1", "\xfa", "\xff", "a\xcc"[1:],
	}
}

// wrongRows have a wrong cell at the beginning, in the middle and at the end, or a character of more than one byte.
func wrongRows() []string {
	var list []string
	for _, cell := range wrongCells() {
		list = append(list, cell+"b.az", "a."+cell+"az", "a.ba"+cell)
	}
	return append(list, "é.az", "a.éz", "a.bé", "a\u0301bc", "abｑ", "ａbz", "ａ.z", "\ufffdab", "A.BAZ")
}

// wrongGrids has none, too many rows, rows that are too short or too long, or of different lengths, and wrong cells in one of the rows.
func wrongGrids() [][]string {
	list := [][]string{
		nil, {}, {""}, {"", ""}, make([]string, maxGridRows), make([]string, maxGridRows+1), make([]string, 100000), {"A"}, {"a", "ab"},
		plain(maxGridRows+1, 1, "a"), plain(maxGridRows+1, maxGridWide, "."), plain(100000, 1, "."), plain(1, maxGridWide+1, "a"), plain(maxGridRows, maxGridWide+1, "."),
		plain(1, 100000, "a"), plain(maxGridRows, 100000, "."), plain(2, 1000000, "a"), plain(maxGridRows+1, maxGridWide+1, "b"), plain(2*maxGridRows, 2, "b"),
	}
	for _, many := range []int{2, 3, maxGridRows} {
		for _, other := range []string{"", "a", "a.b", "a.ba.", "a.ba.b", "...", ".....", strings.Repeat("a", maxGridWide), strings.Repeat("a", maxGridWide+1), strings.Repeat("a", 100000)} {
			for _, at := range []int{0, many / 2, many - 1} {
				rows := slices.Repeat([]string{"a.ba"}, many)
				rows[at] = other
				list = append(list, rows)
			}
		}
	}
	for _, wrong := range wrongRows() {
		for _, many := range []int{1, 2, 3, maxGridRows} {
			for _, at := range []int{0, many / 2, many - 1} {
				rows := slices.Repeat([]string{"a.baz"}, many)
				rows[at] = wrong
				list = append(list, rows)
			}
		}
	}
	for _, cell := range wrongCells() {
		list = append(list, []string{cell}, plain(maxGridRows, maxGridWide, cell))
	}
	return list
}

// wrongLetters are texts that are no small letter; the point, which is none either, is not among them.
func wrongLetters() []string {
	list := []string{"", "ab", "aa", "a.", ".a", "..", "a ", " a", "a\x00", "\x00a", "é", "á", "a\u0301", "ａ", "\u0430", "abc", "az", "a-z", allLetters, strings.Repeat("a", 100000), strings.Repeat(".", 100000)}
	return append(list, wrongCells()...)
}

func textsOf(list []string, code int64) coded[string] { return codedOf(strings.Join(list, " "), code) }

func checkGiven(t *testing.T, rows []string, from, to string, want ...string) {
	t.Helper()
	got, code := impl.GiveLand(rows, from, to)
	checkList(t, fmt.Sprintf("GiveLand %q %s %s", rows, from, to), got, code, want...)
}

func checkTurnedGrid(t *testing.T, rows []string, cells int64, want ...string) {
	t.Helper()
	got, code := impl.TurnGrid(rows, cells)
	checkList(t, fmt.Sprintf("TurnGrid %q %d", rows, cells), got, code, want...)
}

func TestLimitsOfGrids(t *testing.T) {
	same(t, "MaxGridRows", impl.MaxGridRows, maxGridRows)
	same(t, "MaxGridWide", impl.MaxGridWide, maxGridWide)
}

func TestExampleOfLands(t *testing.T) {
	rows := gridOfExample()
	same(t, "LandsOf", codedOf(impl.LandsOf(rows)), coded[string]{"ab", impl.OK})
	same(t, "GridBorders", textsOf(impl.GridBorders(rows)), coded[string]{"ab", impl.OK})
	same(t, "IslandsOf a", resultOf(impl.IslandsOf(rows, "a")), result{2, impl.OK})
	same(t, "CoastOf a", resultOf(impl.CoastOf(rows, "a")), result{2, impl.OK})
	checkAtlases(t, []atlasCase{{rows, atlas{"a 2 2 2, b 1 1 0", "ab", 1, "b", "a"}}})
}

func TestValidGrid(t *testing.T) {
	for rows := 1; rows <= maxGridRows; rows++ {
		for wide := 1; wide <= maxGridWide; wide++ {
			for _, kind := range []string{"a", "m", "z", "."} {
				same(t, fmt.Sprint("ValidGrid ", rows, wide, kind), impl.ValidGrid(plain(rows, wide, kind)), true)
			}
		}
	}
	for b := range 256 {
		isCell := strings.IndexByte(allLetters+".", byte(b)) >= 0
		for _, row := range []string{"%", "%ab", "a%b", "ab%", "%%%"} {
			row = strings.ReplaceAll(row, "%", string([]byte{byte(b)}))
			same(t, fmt.Sprintf("ValidGrid %q", row), impl.ValidGrid(rowsOf(row)), isCell)
			same(t, fmt.Sprintf("ValidGrid %q twice", row), impl.ValidGrid(rowsOf(row, row)), isCell)
		}
	}
	for _, rows := range grids() {
		same(t, fmt.Sprintf("ValidGrid %q", rows), impl.ValidGrid(rows), true)
	}
}

func TestWrongGridsAreNotValid(t *testing.T) {
	for i, rows := range wrongGrids() {
		same(t, fmt.Sprint("ValidGrid of the wrong grid ", i), impl.ValidGrid(rows), false)
	}
	for _, extra := range []string{"a", ".", "aaaa"} {
		for many := 1; many < maxGridRows; many++ {
			same(t, fmt.Sprint("ValidGrid of ", many, " and ", extra), impl.ValidGrid(append(plain(many, 5, "a"), extra)), false)
			same(t, fmt.Sprint("ValidGrid of ", extra, " and ", many), impl.ValidGrid(append(rowsOf(extra), plain(many, 5, "a")...)), false)
		}
	}
}

func TestSmallGrids(t *testing.T) {
	checkAtlases(t, []atlasCase{
		// A row of one cell is its own neighbour to the east and to the west.
		{rowsOf("."), atlas{"", "", 1, "", ""}},
		{rowsOf("a"), atlas{"a 1 1 0", "", 0, "a", "a"}},
		{rowsOf("z"), atlas{"z 1 1 0", "", 0, "z", "z"}},
		{rowsOf("a", "."), atlas{"a 1 1 1", "", 1, "", "a"}},
		{rowsOf(".", "a"), atlas{"a 1 1 1", "", 1, "", "a"}},
		{rowsOf("a", "a", "."), atlas{"a 2 1 1", "", 1, "", "a"}},
		{rowsOf("a", "b", "."), atlas{"a 1 1 0, b 1 1 1", "ab", 1, "a", "a"}},
		// In a row of two cells, the eastern neighbour is the western one as well.
		{rowsOf(".."), atlas{"", "", 1, "", ""}},
		{rowsOf("aa"), atlas{"a 2 1 0", "", 0, "a", "a"}},
		{rowsOf("a."), atlas{"a 1 1 2", "", 1, "", "a"}},
		{rowsOf(".a"), atlas{"a 1 1 2", "", 1, "", "a"}},
		{rowsOf("ab"), atlas{"a 1 1 0, b 1 1 0", "ab", 0, "ab", "a"}},
		{rowsOf("ba"), atlas{"a 1 1 0, b 1 1 0", "ab", 0, "ab", "a"}},
		{rowsOf("a.", ".a"), atlas{"a 2 2 6", "", 2, "", "a"}},
		{rowsOf("ab", "ba"), atlas{"a 2 2 0, b 2 2 0", "ab", 0, "ab", "a"}},
		{rowsOf("a.", "a."), atlas{"a 2 1 4", "", 1, "", "a"}},
		// Three cells.
		{rowsOf("a.a"), atlas{"a 2 1 2", "", 1, "", "a"}},
		{rowsOf(".a."), atlas{"a 1 1 2", "", 1, "", "a"}},
		{rowsOf("abc"), atlas{"a 1 1 0, b 1 1 0, c 1 1 0", "ab ac bc", 0, "abc", "a"}},
		{rowsOf("cba"), atlas{"a 1 1 0, b 1 1 0, c 1 1 0", "ab ac bc", 0, "abc", "a"}},
		{rowsOf("..aa", "b.ac", "..cc"), atlas{"a 3 1 3, b 1 1 3, c 3 1 2", "ac bc", 1, "", "a"}},
	})
}

// There is nothing beyond the northern and the southern edge.
func TestNorthernAndSouthernEdges(t *testing.T) {
	checkAtlases(t, []atlasCase{
		{rowsOf("a", "b", "c"), atlas{"a 1 1 0, b 1 1 0, c 1 1 0", "ab bc", 0, "abc", "a"}},
		{rowsOf("a", ".", "a"), atlas{"a 2 2 2", "", 1, "", "a"}},
		{rowsOf("a", ".", "b"), atlas{"a 1 1 1, b 1 1 1", "", 1, "", "a"}},
		{rowsOf(".", "a", "."), atlas{"a 1 1 2", "", 2, "", "a"}},
		{rowsOf("aaa", "...", "bbb"), atlas{"a 3 1 3, b 3 1 3", "", 1, "", "a"}},
		{rowsOf("...", "aaa", "..."), atlas{"a 3 1 6", "", 2, "", "a"}},
		{rowsOf("aa.", "...", "aa."), atlas{"a 4 2 8", "", 1, "", "a"}},
		{rowsOf("aaa", "bbb", "..."), atlas{"a 3 1 0, b 3 1 3", "ab", 1, "a", "a"}},
	})
}

// The eastern and the western edge are neighbours of each other.
func TestEasternAndWesternEdges(t *testing.T) {
	checkAtlases(t, []atlasCase{
		{rowsOf("a..b"), atlas{"a 1 1 1, b 1 1 1", "ab", 1, "", "a"}},
		{rowsOf("b..a"), atlas{"a 1 1 1, b 1 1 1", "ab", 1, "", "a"}},
		{rowsOf(".a.b"), atlas{"a 1 1 2, b 1 1 2", "", 2, "", "a"}},
		// Parts that hang together only around the edge.
		{rowsOf("a..a"), atlas{"a 2 1 2", "", 1, "", "a"}},
		{rowsOf(".aa."), atlas{"a 2 1 2", "", 1, "", "a"}},
		{rowsOf("ab.a"), atlas{"a 2 1 1, b 1 1 1", "ab", 1, "", "a"}},
		{rowsOf(".ab."), atlas{"a 1 1 1, b 1 1 1", "ab", 1, "", "a"}},
		{rowsOf("a..a", "....", "a..a"), atlas{"a 4 2 8", "", 1, "", "a"}},
		{rowsOf("a..a", "a..."), atlas{"a 3 1 5", "", 1, "", "a"}},
		{rowsOf("a...", "a..a", "...a"), atlas{"a 4 1 8", "", 1, "", "a"}},
		// Several rows between which nothing leads on the sheet.
		{rowsOf("a.a", "aa.", ".aa"), atlas{"a 6 1 10", "", 3, "", "a"}},
		{rowsOf("a.b", "b.a"), atlas{"a 2 2 2, b 2 2 2", "ab", 1, "", "a"}},
		{helix(maxGridRows, 3), atlas{"a 32 1 62", "", 16, "", "a"}},
		{helix(maxGridRows, 5), atlas{"a 32 1 62", "", 1, "", "a"}},
		{helix(maxGridRows, maxGridWide), atlas{"a 32 1 62", "", 1, "", "a"}},
		{rowsOf(".aaaa", "....a", ".aaaa", ".a...", ".aaaa"), atlas{"a 14 1 22", "", 1, "", "a"}},
	})
}

func TestCornersDoNotMeet(t *testing.T) {
	checkAtlases(t, []atlasCase{
		{rowsOf("a...", ".a.."), atlas{"a 2 2 6", "", 1, "", "a"}},
		{rowsOf(".a..", "a..."), atlas{"a 2 2 6", "", 1, "", "a"}},
		{rowsOf("a...", ".b.."), atlas{"a 1 1 3, b 1 1 3", "", 1, "", "a"}},
		{rowsOf("a...", "....", ".a.."), atlas{"a 2 2 6", "", 1, "", "a"}},
		// Over the edge.
		{rowsOf("a...", "...a"), atlas{"a 2 2 6", "", 1, "", "a"}},
		{rowsOf("...a", "a..."), atlas{"a 2 2 6", "", 1, "", "a"}},
		{rowsOf("a...", "...b"), atlas{"a 1 1 3, b 1 1 3", "", 1, "", "a"}},
		// Seas.
		{rowsOf("aaaa", "a.aa", "aa.a", "aaaa"), atlas{"a 14 1 8", "", 2, "", "a"}},
		{rowsOf("aaaa", ".aaa", "aaa.", "aaaa"), atlas{"a 14 1 8", "", 2, "", "a"}},
		{rowsOf("aaaa", ".aaa", ".aa.", "aaaa"), atlas{"a 13 1 8", "", 1, "", "a"}},
		{chequered(maxGridRows, maxGridWide, "a."), atlas{"a 256 256 992", "", 256, "", "a"}},
		{chequered(maxGridRows, maxGridWide, "ba"), atlas{"a 256 256 0, b 256 256 0", "ab", 0, "ab", "a"}},
	})
}

func TestLandsAndSeasInsideOthers(t *testing.T) {
	checkAtlases(t, []atlasCase{
		{rowsOf("aaaaa", "abbba", "abcba", "abbba", "aaaaa"), atlas{"a 16 1 0, b 8 1 0, c 1 1 0", "ab bc", 0, "abc", "a"}},
		{rowsOf("aaaaa", "abbba", "ab.ba", "abbba", "aaaaa"), atlas{"a 16 1 0, b 8 1 4", "ab", 1, "a", "a"}},
		{rowsOf("aaaa", "baab", "aaaa"), atlas{"a 10 1 0, b 2 1 0", "ab", 0, "ab", "a"}},
		{rowsOf("aaa", "aba", "aaa", "..."), atlas{"a 8 1 3, b 1 1 0", "ab", 1, "b", "a"}},
		{rowsOf("....", "baab", "...."), atlas{"a 2 1 4, b 2 1 4", "ab", 2, "", "a"}},
		{rowsOf(".....", ".aaa.", ".a.a.", ".aaa.", "....."), atlas{"a 8 1 16", "", 2, "", "a"}},
		{rowsOf(".....", "aa.aa", "a...a", "aa.aa", "....."), atlas{"a 10 1 18", "", 1, "", "a"}},
		// A land around the sphere parts the sea, unless it has a gap.
		{rowsOf("....", "aaa.", "...."), atlas{"a 3 1 8", "", 1, "", "a"}},
		{rowsOf("....", "aaaa", "...."), atlas{"a 4 1 8", "", 2, "", "a"}},
		// One land from pole to pole does not part it, and two do.
		{rowsOf("a..", "a..", "a.."), atlas{"a 3 1 6", "", 1, "", "a"}},
		{rowsOf("a.a.", "a.a."), atlas{"a 4 2 8", "", 2, "", "a"}},
		{rowsOf("aaaa", "a.a.", "a.a."), atlas{"a 8 1 10", "", 2, "", "a"}},
	})
}

func TestGreatestLands(t *testing.T) {
	checkAtlases(t, []atlasCase{
		// Lands with equally many cells.
		{rowsOf("zzyyxx"), atlas{"x 2 1 0, y 2 1 0, z 2 1 0", "xy xz yz", 0, "xyz", "x"}},
		{rowsOf("b.a"), atlas{"a 1 1 1, b 1 1 1", "ab", 1, "", "a"}},
		{rowsOf("cbbccb.a"), atlas{"a 1 1 1, b 3 2 1, c 3 2 0", "ac bc", 1, "c", "b"}},
		// The last land, and one in several parts.
		{rowsOf("bba"), atlas{"a 1 1 0, b 2 1 0", "ab", 0, "ab", "b"}},
		{rowsOf("b.b.b.aa"), atlas{"a 2 1 1, b 3 3 5", "ab", 3, "", "b"}},
		// The sea has more cells than any land.
		{rowsOf(".....z..", "........"), atlas{"z 1 1 3", "", 1, "", "z"}},
	})
}

func TestAllLands(t *testing.T) {
	var lands, borders []string
	for i := range len(allLetters) {
		lands = append(lands, landText(allLetters[i], 1, 1, 0))
		if i > 0 {
			borders = append(borders, allLetters[i-1:i+1])
		}
	}
	borders = slices.Insert(borders, 1, "az")
	want := atlas{strings.Join(lands, ", "), strings.Join(borders, " "), 0, allLetters, "a"}
	checkAtlas(t, rowsOf(allLetters), want)
	back := []byte(allLetters)
	slices.Reverse(back)
	checkAtlas(t, rowsOf(string(back)), want)
	// With the sea between the first one and the last one.
	sea := atlas{strings.ReplaceAll(strings.ReplaceAll(want.lands, "a 1 1 0", "a 1 1 1"), "z 1 1 0", "z 1 1 1"), strings.ReplaceAll(want.borders, " az", ""), 1, allLetters[1:25], "a"}
	checkAtlas(t, rowsOf(allLetters+"."), sea)
	checkAtlas(t, rowsOf("klmnopqrstuvwxyz.abcdefghij"), sea)
	checkAtlas(t, plain(maxGridRows, maxGridWide, "."), atlas{seas: 1})
	checkAtlas(t, plain(maxGridRows, maxGridWide, "q"), atlas{lands: "q 512 1 0", landlocked: "q", greatest: "q"})
	checkAtlas(t, plain(maxGridRows, 1, "q"), atlas{lands: "q 16 1 0", landlocked: "q", greatest: "q"})
	checkAtlas(t, plain(1, maxGridWide, "q"), atlas{lands: "q 32 1 0", landlocked: "q", greatest: "q"})
}

func TestGridsFollowTheRule(t *testing.T) {
	for _, rows := range grids() {
		checkAtlas(t, rows, ruleAtlas(rows))
	}
	// Each grid of these sizes with two lands and the sea.
	for _, size := range [][2]int{{1, 5}, {5, 1}, {2, 3}, {3, 2}} {
		cells := size[0] * size[1]
		for number, end := 0, power(3, cells); number < end; number++ {
			rows := painted(size[0], size[1], func(row, column int) byte { return ".ab"[number/power(3, row*size[1]+column)%3] })
			checkAtlas(t, rows, ruleAtlas(rows))
		}
	}
}

func power(n, times int) int {
	product := 1
	for range times {
		product *= n
	}
	return product
}

func TestGiveLand(t *testing.T) {
	rows := rowsOf("..aa", "b.ac", "..cc")
	// To itself, to another one, to the sea, and to one that has no cell.
	checkGiven(t, rows, "a", "a", "..aa", "b.ac", "..cc")
	checkGiven(t, rows, "b", "c", "..aa", "c.ac", "..cc")
	checkGiven(t, rows, "c", "b", "..aa", "b.ab", "..bb")
	checkGiven(t, rows, "a", ".", "....", "b..c", "..cc")
	checkGiven(t, rows, "a", "z", "..zz", "b.zc", "..cc")
	checkGiven(t, gridOfExample(), "a", "b", "b.bb")
	checkGiven(t, gridOfExample(), "b", "a", "a.aa")
	checkGiven(t, rowsOf("a"), "a", ".", ".")
	checkGiven(t, rowsOf("a"), "a", "z", "z")
	checkGiven(t, rowsOf("z"), "z", "a", "a")
	checkGiven(t, plain(maxGridRows, maxGridWide, "k"), "k", ".", plain(maxGridRows, maxGridWide, ".")...)
	checkGiven(t, plain(maxGridRows, maxGridWide, "k"), "k", "l", plain(maxGridRows, maxGridWide, "l")...)
	checkGiven(t, rowsOf(allLetters), "m", "a", "abcdefghijklanopqrstuvwxyz")
}

func TestGiveLandFollowsTheRule(t *testing.T) {
	for _, rows := range grids() {
		lands := strings.Split(ruleAtlas(rows).lands, ", ")
		for i, land := range lands {
			if land == "" {
				continue
			}
			for _, to := range []string{".", "a", "z", "k", land[:1], lands[len(lands)-1-i][:1]} {
				want := painted(len(rows), len(rows[0]), func(row, column int) byte {
					if rows[row][column] == land[0] {
						return to[0]
					}
					return rows[row][column]
				})
				checkGiven(t, rows, land[:1], to, want...)
			}
		}
	}
}

func TestTurnGrid(t *testing.T) {
	rows := rowsOf("..aa", "b.ac", "..cc")
	checkTurnedGrid(t, rows, 0, rows...)
	checkTurnedGrid(t, rows, 1, "a..a", "cb.a", "c..c")
	checkTurnedGrid(t, rows, 2, "aa..", "acb.", "cc..")
	checkTurnedGrid(t, rows, -1, ".aa.", ".acb", ".cc.")
	checkTurnedGrid(t, rows, -5, ".aa.", ".acb", ".cc.")
	// By the length of a row, and by one less and more.
	checkTurnedGrid(t, rows, 3, ".aa.", ".acb", ".cc.")
	checkTurnedGrid(t, rows, 4, rows...)
	checkTurnedGrid(t, rows, 5, "a..a", "cb.a", "c..c")
	checkTurnedGrid(t, rows, -3, "a..a", "cb.a", "c..c")
	checkTurnedGrid(t, rows, -4, rows...)
	checkTurnedGrid(t, gridOfExample(), 1, "ba.a")
	checkTurnedGrid(t, rowsOf("abc"), 1, "cab")
	checkTurnedGrid(t, rowsOf("abc"), -1, "bca")
	// By as much as possible.
	checkTurnedGrid(t, rowsOf("abc"), maxTurned, "cab")
	checkTurnedGrid(t, rowsOf("abc"), -maxTurned, "bca")
	checkTurnedGrid(t, rowsOf("abc"), maxTurned-1, "abc")
	checkTurnedGrid(t, rowsOf(allLetters), maxTurned, "opqrstuvwxyzabcdefghijklmn")
	checkTurnedGrid(t, rowsOf(allLetters), -maxTurned, "mnopqrstuvwxyzabcdefghijkl")
	// Rows of one cell.
	for _, cells := range turnedArgument.right {
		checkTurnedGrid(t, rowsOf("a", ".", "b"), cells, "a", ".", "b")
	}
}

func TestTurnGridFollowsTheRule(t *testing.T) {
	for _, rows := range [][]string{gridOfExample(), rowsOf("a"), rowsOf("a.", ".b"), rowsOf("abc", "...", "xyz"), rowsOf(allLetters), helix(maxGridRows, 31), helix(maxGridRows, maxGridWide)} {
		for cells := -maxTurned; cells <= maxTurned; cells++ {
			checkTurnedGrid(t, rows, int64(cells), ruleTurned(rows, cells)...)
		}
	}
	for _, rows := range grids() {
		for _, cells := range turnedArgument.right {
			checkTurnedGrid(t, rows, cells, ruleTurned(rows, int(cells))...)
		}
	}
}

// ruleTurned puts each cell where it moves to.
func ruleTurned(rows []string, cells int) []string {
	wide := len(rows[0])
	var turned []string
	for _, row := range rows {
		other := make([]byte, wide)
		for column := range wide {
			other[(column+cells+maxTurned*wide)%wide] = row[column]
		}
		turned = append(turned, string(other))
	}
	return turned
}

// A gridCall is a call of a function with a grid; it returns all results, the code as the last one.
type gridCall struct {
	name string
	call func(rows []string) []any
}

// callsOfLand has the calls of all functions with a land.
func callsOfLand(land string) []gridCall {
	shown := " " + quoted(land)
	calls := []gridCall{
		{"CellsOf" + shown, func(rows []string) []any { return resultsOf(impl.CellsOf(rows, land)) }},
		{"IslandsOf" + shown, func(rows []string) []any { return resultsOf(impl.IslandsOf(rows, land)) }},
		{"CoastOf" + shown, func(rows []string) []any { return resultsOf(impl.CoastOf(rows, land)) }},
	}
	for _, to := range []string{"a", "z", ".", land} {
		calls = append(calls, callOfGiving(land, to))
	}
	return calls
}

func callOfGiving(from, to string) gridCall {
	return gridCall{"GiveLand " + quoted(from) + " " + quoted(to), func(rows []string) []any { return resultsOf(impl.GiveLand(rows, from, to)) }}
}

func callOfTurning(cells int64) gridCall {
	return gridCall{fmt.Sprint("TurnGrid ", cells), func(rows []string) []any { return resultsOf(impl.TurnGrid(rows, cells)) }}
}

// callsOfGrids has calls of all functions that refuse a grid that is not valid; some of their other arguments are wrong.
func callsOfGrids() []gridCall {
	calls := []gridCall{
		{"LandsOf", func(rows []string) []any { return resultsOf(impl.LandsOf(rows)) }},
		{"GridBorders", func(rows []string) []any { return resultsOf(impl.GridBorders(rows)) }},
		{"SeasOf", func(rows []string) []any { return resultsOf(impl.SeasOf(rows)) }},
		{"LandlockedOf", func(rows []string) []any { return resultsOf(impl.LandlockedOf(rows)) }},
		{"GreatestLand", func(rows []string) []any { return resultsOf(impl.GreatestLand(rows)) }},
	}
	for _, land := range append(wrongLetters(), "a", "b", "k", "z", ".") {
		calls = append(calls, callsOfLand(land)...)
		calls = append(calls, callOfGiving("a", land), callOfGiving("k", land))
	}
	for _, cells := range append(turnedArgument.right, turnedArgument.wrong...) {
		calls = append(calls, callOfTurning(cells))
	}
	return calls
}

// A grid that is not valid is refused before any other argument.
func TestWrongGridsAreRefused(t *testing.T) {
	for _, x := range callsOfGrids() {
		for i, rows := range wrongGrids() {
			checkRefused(t, fmt.Sprint(x.name, " of the wrong grid ", i), x.call(rows), impl.ErrInvalid)
		}
	}
}

// gridsForErrors has those with the sea alone, with one land, with some and with all.
func gridsForErrors() [][]string {
	return [][]string{
		gridOfExample(), rowsOf("."), rowsOf("a"), rowsOf("z"), rowsOf("k."), rowsOf("..aa", "b.ac", "..cc"), rowsOf(allLetters), rowsOf(allLetters + "."),
		plain(maxGridRows, maxGridWide, "."), plain(maxGridRows, maxGridWide, "b"), chequered(3, 5, "yx"),
	}
}

func TestTextsThatAreNoLand(t *testing.T) {
	for _, rows := range gridsForErrors() {
		for _, land := range append(wrongLetters(), ".") {
			for _, x := range callsOfLand(land) {
				checkRefused(t, fmt.Sprintf("%s of %q", x.name, rows), x.call(rows), impl.ErrRange)
			}
		}
	}
}

func TestLandsThatAreNotThere(t *testing.T) {
	for _, rows := range gridsForErrors() {
		for _, land := range strings.Split(allLetters, "") {
			isThere := strings.Contains(strings.Join(rows, ""), land)
			for _, x := range callsOfLand(land) {
				what := fmt.Sprintf("%s of %q", x.name, rows)
				if isThere {
					same(t, what, x.call(rows)[1].(int64), impl.OK)
				} else {
					checkRefused(t, what, x.call(rows), impl.ErrNotFound)
				}
			}
		}
	}
}

// What is no land and not the sea is refused before a land that is not there.
func TestErrorsOfGiveLand(t *testing.T) {
	for _, rows := range gridsForErrors() {
		for _, from := range append(wrongLetters(), ".", "a", "b", "k", "z") {
			for _, to := range wrongLetters() {
				x := callOfGiving(from, to)
				checkRefused(t, fmt.Sprintf("%s of %q", x.name, rows), x.call(rows), impl.ErrRange)
			}
		}
	}
}

func TestErrorsOfTurnGrid(t *testing.T) {
	for _, rows := range gridsForErrors() {
		for _, cells := range turnedArgument.wrong {
			x := callOfTurning(cells)
			checkRefused(t, fmt.Sprintf("%s of %q", x.name, rows), x.call(rows), impl.ErrRange)
		}
	}
}

// A grid without lands has no greatest one; it has no lands, no borders and no lands without a coast, and these are no errors.
func TestGridsOfTheSeaAlone(t *testing.T) {
	for _, rows := range [][]string{rowsOf("."), rowsOf(".."), rowsOf(".", "."), plain(3, 5, "."), plain(maxGridRows, maxGridWide, ".")} {
		what := fmt.Sprintf(" of %q", rows)
		checkRefused(t, "GreatestLand"+what, resultsOf(impl.GreatestLand(rows)), impl.ErrNotFound)
		same(t, "LandsOf"+what, codedOf(impl.LandsOf(rows)), coded[string]{"", impl.OK})
		same(t, "LandlockedOf"+what, codedOf(impl.LandlockedOf(rows)), coded[string]{"", impl.OK})
		same(t, "GridBorders"+what, textsOf(impl.GridBorders(rows)), coded[string]{"", impl.OK})
		same(t, "SeasOf"+what, resultOf(impl.SeasOf(rows)), result{1, impl.OK})
	}
	same(t, "SeasOf without a sea", resultOf(impl.SeasOf(rowsOf("ab"))), result{0, impl.OK})
}
