package tests

import (
	"cmp"
	"fmt"
	"math"
	"math/rand"
	"regexp"
	"slices"
	"strconv"
	"strings"
	"testing"

	"loop.example/g01055/impl"
)

const (
	maxEngraved = 12
	maxEdits    = 20
)

func plateOf(names ...string) []string { return names }

func edit(place int64, from, to string) impl.Edit { return impl.Edit{Place: place, Old: from, New: to} }

// way has the edits that lead at one place from each name to the next one.
func way(place int64, names ...string) []impl.Edit {
	var list []impl.Edit
	for i := range len(names) - 1 {
		list = append(list, edit(place, names[i], names[i+1]))
	}
	return list
}

// rightNames has names, and the empty string.
func rightNames() []string {
	return []string{"", "a", "b", "z", "bay", "cape-2", "isle", "port", "a-", "b0", "c9", "z-", "abcdefghijkl", "z-9876543210", "a-----------"}
}

// wrongEngravings are texts that are neither names nor empty: just hyphens, bytes beside those of names, and names that are too long.
func wrongEngravings() []string {
	list := []string{
		"-", "--", "-a", "0", "9z", " ", "  ", " a", "a ", "cape 2", "#", ">", "#3", "A", "Bay", "baY", "abcdefghijklm", "z-98765432101", strings.Repeat("a", 100000),
		"é", "isleé", "a\u0301", "ａ", "\u0430", "\ufffd", "a\xff", "\xff", "\xe1", "a\x00", "\x00", "\n", "a\n", "\ta",
	}
	for _, b := range []byte("`{/:@[.,_+*~\x7f\x80") {
		list = append(list, string([]byte{b}), "a"+string([]byte{b}), "a"+string([]byte{b})+"c")
	}
	return list
}

// drawnPlate has some of a few names, so that plates often have the same one at a place.
func drawnPlate(r *rand.Rand, places, many int) []string {
	names := make([]string, places)
	for i := range names {
		names[i] = rightNames()[r.Intn(many)]
	}
	return names
}

// rightPlates has plates of each number of places, with empty names at all, at some and at no places.
func rightPlates() [][]string {
	list := [][]string{plateOf(rightNames()[1:13]...), plateOf("bay", "", "isle"), plateOf("bay", "cape-2", "isle")}
	r := rand.New(rand.NewSource(70))
	for places := 1; places <= maxEngraved; places++ {
		list = append(list, make([]string, places), slices.Repeat(plateOf("a"), places), slices.Repeat(plateOf("", "port"), places)[:places])
		list = append(list, drawnPlate(r, places, 2), drawnPlate(r, places, 3), drawnPlate(r, places, len(rightNames())))
	}
	return list
}

// wrongPlates has none, too many places, and wrong names at the first, a middle and the last place.
func wrongPlates() [][]string {
	list := [][]string{
		nil, {}, make([]string, maxEngraved+1), slices.Repeat(plateOf("a"), maxEngraved+1), make([]string, 2*maxEngraved), slices.Repeat(plateOf("bay", ""), 50000),
	}
	for _, wrong := range wrongEngravings() {
		for _, places := range []int{1, 2, 3, maxEngraved} {
			for _, at := range []int{0, places / 2, places - 1} {
				names := slices.Repeat(plateOf("bay"), places)
				names[at] = wrong
				list = append(list, names)
			}
		}
	}
	return list
}

// rightEdits has edits of all places between each two names.
func rightEdits() []impl.Edit {
	var list []impl.Edit
	for i, from := range rightNames() {
		for k, to := range rightNames() {
			if from != to {
				list = append(list, edit(int64(i+k)%maxEngraved, from, to), edit(int64(i*k)%maxEngraved, from, to))
			}
		}
	}
	for place := range int64(maxEngraved) {
		list = append(list, edit(place, "", "cape-2"), edit(place, "cape-2", ""), edit(place, "a", "b"))
	}
	return list
}

// wrongEditPlaces are numbers that are no Place of an edit.
func wrongEditPlaces() []int64 {
	return []int64{-1, maxEngraved, maxEngraved + 1, -maxEngraved, 100, 1 << 32, -1 << 32, 1<<32 + 3, math.MinInt64, math.MinInt64 + 1, math.MaxInt64 - 1, math.MaxInt64}
}

// wrongEdits has a wrong Place, a wrong name, equal names, or several of these.
func wrongEdits() []impl.Edit {
	list := []impl.Edit{{}, edit(3, "a", "a"), edit(3, "cape-2", "cape-2"), edit(maxEngraved-1, "", ""), edit(-1, "", ""), edit(maxEngraved, "a", "a"), edit(-1, "-", "-")}
	for _, place := range wrongEditPlaces() {
		list = append(list, edit(place, "", "a"), edit(place, "a", ""), edit(place, "a", "b"))
	}
	for _, wrong := range wrongEngravings() {
		list = append(list, edit(0, "a", wrong), edit(0, wrong, "a"), edit(5, "", wrong), edit(maxEngraved-1, wrong, ""), edit(1, wrong, wrong), edit(2, wrong, "-"))
	}
	return list
}

// wrongEditLists has too many edits, and wrong ones at the beginning, in the middle and at the end.
func wrongEditLists() [][]impl.Edit {
	list := [][]impl.Edit{thereAndBackAgain(maxEdits + 1), thereAndBackAgain(maxEdits + 2), thereAndBackAgain(100000), make([]impl.Edit, 100000), slices.Repeat([]impl.Edit{edit(0, "bay", "a")}, maxEdits+1)}
	for _, wrong := range wrongEdits() {
		for _, many := range []int{1, 2, 5, maxEdits} {
			for _, at := range []int{0, many / 2, many - 1} {
				edits := thereAndBackAgain(many)
				edits[at] = wrong
				list = append(list, edits)
			}
		}
	}
	return list
}

// thereAndBackAgain has so many edits of the place 0, between bay and no name.
func thereAndBackAgain(many int) []impl.Edit {
	return way(0, slices.Repeat(plateOf("bay", ""), many+1)[:many+1]...)
}

// A corrected is a plate after edits, or a code.
type corrected struct {
	names []string
	code  int64
}

// ruleApply looks for each edit back at all edits before it, to see what is at its place.
func ruleApply(names []string, list []impl.Edit) corrected {
	here := func(place int64, edits []impl.Edit) string {
		for _, x := range slices.Backward(edits) {
			if x.Place == place {
				return x.New
			}
		}
		return names[place]
	}
	for i, x := range list {
		if x.Place >= int64(len(names)) {
			return corrected{nil, impl.ErrRange}
		}
		if here(x.Place, list[:i]) != x.Old {
			return corrected{nil, impl.ErrClash}
		}
	}
	after := make([]string, len(names))
	for place := range after {
		after[place] = here(int64(place), list)
	}
	return corrected{after, impl.OK}
}

// ruleUndo looks for each edit at all edits behind it.
func ruleUndo(names []string, list []impl.Edit) corrected {
	here := func(place int64, edits []impl.Edit) string {
		for _, x := range edits {
			if x.Place == place {
				return x.Old
			}
		}
		return names[place]
	}
	for i, x := range slices.Backward(list) {
		if x.Place >= int64(len(names)) {
			return corrected{nil, impl.ErrRange}
		}
		if here(x.Place, list[i+1:]) != x.New {
			return corrected{nil, impl.ErrClash}
		}
	}
	before := make([]string, len(names))
	for place := range before {
		before[place] = here(int64(place), list)
	}
	return corrected{before, impl.OK}
}

// ruleShort looks at the edits of one place after the other.
func ruleShort(list []impl.Edit) ([]impl.Edit, int64) {
	var short []impl.Edit
	for place := range int64(maxEngraved) {
		own := slices.DeleteFunc(slices.Clone(list), func(x impl.Edit) bool { return x.Place != place })
		for i := 1; i < len(own); i++ {
			if own[i].Old != own[i-1].New {
				return nil, impl.ErrClash
			}
		}
		if len(own) > 0 && own[0].Old != own[len(own)-1].New {
			short = append(short, edit(place, own[0].Old, own[len(own)-1].New))
		}
	}
	return short, impl.OK
}

// ruleMerge has the places of conflicts, and the merged names, which have no meaning if there are such places.
func ruleMerge(base, a, b []string) ([]int64, []string) {
	var conflicts []int64
	merged := make([]string, len(base))
	for i := range base {
		switch inA, inB := a[i] == base[i], b[i] == base[i]; {
		case inA:
			merged[i] = b[i]
		case inB || a[i] == b[i]:
			merged[i] = a[i]
		default:
			conflicts = append(conflicts, int64(i))
		}
	}
	return conflicts, merged
}

// drawnEdits has edits of a plate. All of them fit, or about one in so many does not.
func drawnEdits(r *rand.Rand, names []string, many, oneIn int) []impl.Edit {
	var list []impl.Edit
	now := slices.Clone(names)
	for len(list) < many {
		place := r.Intn(len(names))
		x := edit(int64(place), now[place], rightNames()[r.Intn(4)])
		switch {
		case oneIn > 0 && r.Intn(oneIn) == 0:
			x.Old = rightNames()[r.Intn(4)]
		case oneIn > 0 && r.Intn(2*oneIn) == 0:
			x.Place = int64(r.Intn(maxEngraved))
		}
		if x.Old != x.New {
			list = append(list, x)
			now[place] = x.New
		}
	}
	return list
}

// An editCase is a plate with edits.
type editCase struct {
	names []string
	list  []impl.Edit
}

// editCases has plates with edits that fit, and with others.
func editCases() []editCase {
	var cases []editCase
	r := rand.New(rand.NewSource(71))
	for i, names := range rightPlates() {
		for _, many := range []int{0, 1, 2, 3, 5, 10, maxEdits - 1, maxEdits} {
			cases = append(cases, editCase{names, drawnEdits(r, names, many, 0)}, editCase{names, drawnEdits(r, names, many, max(many, 3))})
		}
		cases = append(cases, editCase{names, rightEdits()[i : i+1+i%maxEdits]})
	}
	return cases
}

func checkApplied(t *testing.T, names []string, list []impl.Edit, want ...string) {
	t.Helper()
	got, code := impl.ApplyEdits(names, list)
	checkList(t, fmt.Sprintf("ApplyEdits %q %+v", names, list), got, code, want...)
}

func checkUndone(t *testing.T, names []string, list []impl.Edit, want ...string) {
	t.Helper()
	got, code := impl.UndoEdits(names, list)
	checkList(t, fmt.Sprintf("UndoEdits %q %+v", names, list), got, code, want...)
}

func checkNotApplied(t *testing.T, names []string, list []impl.Edit, want int64) {
	t.Helper()
	checkRefused(t, fmt.Sprintf("ApplyEdits %q %+v", names, list), resultsOf(impl.ApplyEdits(names, list)), want)
}

func checkNotUndone(t *testing.T, names []string, list []impl.Edit, want int64) {
	t.Helper()
	checkRefused(t, fmt.Sprintf("UndoEdits %q %+v", names, list), resultsOf(impl.UndoEdits(names, list)), want)
}

func checkEditsBetween(t *testing.T, a, b []string, want ...impl.Edit) {
	t.Helper()
	got, code := impl.EditsBetween(a, b)
	checkList(t, fmt.Sprintf("EditsBetween %q %q", a, b), got, code, want...)
}

func checkShort(t *testing.T, list []impl.Edit, want ...impl.Edit) {
	t.Helper()
	got, code := impl.ShortEdits(list)
	checkList(t, fmt.Sprintf("ShortEdits %+v", list), got, code, want...)
}

func checkNotShort(t *testing.T, list ...impl.Edit) {
	t.Helper()
	checkRefused(t, fmt.Sprintf("ShortEdits %+v", list), resultsOf(impl.ShortEdits(list)), impl.ErrClash)
}

func checkConflicts(t *testing.T, base, a, b []string, want ...int64) {
	t.Helper()
	got, code := impl.ConflictsOf(base, a, b)
	checkList(t, fmt.Sprintf("ConflictsOf %q %q %q", base, a, b), got, code, want...)
	if len(want) > 0 {
		checkRefused(t, fmt.Sprintf("MergePlates %q %q %q", base, a, b), resultsOf(impl.MergePlates(base, a, b)), impl.ErrClash)
	}
}

func checkMerged(t *testing.T, base, a, b []string, want ...string) {
	t.Helper()
	got, code := impl.MergePlates(base, a, b)
	checkList(t, fmt.Sprintf("MergePlates %q %q %q", base, a, b), got, code, want...)
	checkConflicts(t, base, a, b)
}

func checkReadEdit(t *testing.T, s string, want impl.Edit) {
	t.Helper()
	x, ok := impl.ReadEdit(s)
	same(t, "ReadEdit "+quoted(s), ok, true)
	same(t, "ReadEdit "+quoted(s), x, want)
	same(t, fmt.Sprintf("EditText %+v", want), impl.EditText(want), s)
}

func checkNotRead(t *testing.T, s string) {
	t.Helper()
	x, ok := impl.ReadEdit(s)
	same(t, "ReadEdit "+quoted(s), ok, false)
	same(t, "ReadEdit "+quoted(s), x, impl.Edit{})
}

func TestLimitsOfPlates(t *testing.T) {
	same(t, "MaxEngraved", impl.MaxEngraved, maxEngraved)
	same(t, "MaxEdits", impl.MaxEdits, maxEdits)
}

func TestExampleOfEdits(t *testing.T) {
	x, ok := impl.ReadEdit("#3 - > cape-2")
	same(t, "ReadEdit", ok, true)
	same(t, "ReadEdit", x, impl.Edit{Place: 3, Old: "", New: "cape-2"})
	same(t, "EditText", impl.EditText(x), "#3 - > cape-2")
	checkApplied(t, plateOf("bay", "", "isle", "", "port"), []impl.Edit{x}, "bay", "", "isle", "cape-2", "port")
}

func TestValidPlate(t *testing.T) {
	for _, names := range rightPlates() {
		same(t, fmt.Sprintf("ValidPlate %q", names), impl.ValidPlate(names), true)
	}
	for _, name := range rightNames() {
		same(t, "ValidPlate of "+name, impl.ValidPlate(plateOf(name)), true)
		same(t, "ValidPlate of others and "+name, impl.ValidPlate(plateOf("isle", "", name)), true)
	}
	for i, names := range wrongPlates() {
		same(t, fmt.Sprint("ValidPlate of the wrong plate ", i), impl.ValidPlate(names), false)
	}
	for places := range 2*maxEngraved + 1 {
		isPlate := places >= 1 && places <= maxEngraved
		same(t, fmt.Sprint("ValidPlate without names ", places), impl.ValidPlate(make([]string, places)), isPlate)
		same(t, fmt.Sprint("ValidPlate with names ", places), impl.ValidPlate(slices.Repeat(plateOf("isle"), places)), isPlate)
	}
}

// What is a name in a plate is one in an edit, and the other way around: each byte on its own, and behind and between letters.
func TestBytesOfNamesOnPlates(t *testing.T) {
	for b := range 256 {
		for _, form := range []string{"%", "a%", "%a", "a%c", "abcdefghijk%"} {
			name := strings.ReplaceAll(form, "%", string([]byte{byte(b)}))
			isName := impl.IsName(name)
			same(t, fmt.Sprintf("ValidPlate %q", name), impl.ValidPlate(plateOf("bay", name)), isName)
			same(t, fmt.Sprintf("ValidEdits from %q", name), impl.ValidEdits([]impl.Edit{edit(1, name, "bay")}), isName)
			same(t, fmt.Sprintf("ValidEdits to %q", name), impl.ValidEdits([]impl.Edit{edit(1, "", name)}), isName)
			same(t, fmt.Sprintf("EditText to %q", name), impl.EditText(edit(1, "", name)) != "", isName)
			_, isRead := impl.ReadEdit("#1 - > " + name)
			same(t, fmt.Sprintf("ReadEdit to %q", name), isRead, isName)
		}
	}
}

func TestValidEdits(t *testing.T) {
	same(t, "ValidEdits of none", impl.ValidEdits(nil) && impl.ValidEdits([]impl.Edit{}), true)
	for _, x := range rightEdits() {
		same(t, fmt.Sprintf("ValidEdits %+v", x), impl.ValidEdits([]impl.Edit{x}), true)
		same(t, fmt.Sprintf("ValidEdits twice %+v", x), impl.ValidEdits([]impl.Edit{x, x}), true)
	}
	for many := range 2 * maxEdits {
		// Neither do the edits have to follow each other.
		same(t, fmt.Sprint("ValidEdits there and back ", many), impl.ValidEdits(thereAndBackAgain(many)), many <= maxEdits)
		same(t, fmt.Sprint("ValidEdits ", many), impl.ValidEdits(rightEdits()[:many]), many <= maxEdits)
	}
	for _, x := range editCases() {
		same(t, fmt.Sprintf("ValidEdits %+v", x.list), impl.ValidEdits(x.list), true)
	}
	for _, x := range wrongEdits() {
		same(t, fmt.Sprintf("ValidEdits %+v", x), impl.ValidEdits([]impl.Edit{x}), false)
	}
	for i, list := range wrongEditLists() {
		same(t, fmt.Sprint("ValidEdits of the wrong list ", i), impl.ValidEdits(list), false)
	}
	for place := int64(-20); place <= 30; place++ {
		isPlace := place >= 0 && place <= maxEngraved-1
		same(t, fmt.Sprint("ValidEdits at ", place), impl.ValidEdits([]impl.Edit{edit(place, "a", "b")}), isPlace)
		same(t, fmt.Sprint("EditText at ", place), impl.EditText(edit(place, "a", "b")) != "", isPlace)
	}
}

// Lists of names are compared whether they are plates or not.
func TestSamePlate(t *testing.T) {
	lists := slices.Concat(rightPlates(), wrongPlates()[:60], [][]string{{"A"}, {"A", ""}, {"", "A"}, {"\xff"}, {"\xfe"}, {"a", "a"}, {"aa"}, {"", "aa"}, {"aa", ""}})
	for i, a := range lists {
		for k, b := range lists {
			want := len(a) == len(b) && fmt.Sprintf("%q", a) == fmt.Sprintf("%q", b)
			same(t, fmt.Sprint("SamePlate of the lists ", i, " and ", k), impl.SamePlate(a, slices.Clone(b)), want)
		}
	}
	same(t, "SamePlate of no lists", impl.SamePlate(nil, []string{}) && impl.SamePlate([]string{}, nil) && impl.SamePlate(nil, nil), true)
	same(t, "SamePlate of none and of an empty name", impl.SamePlate(nil, plateOf("")), false)
	for _, names := range rightPlates() {
		for i := range names {
			other := slices.Clone(names)
			other[i] += "x"
			same(t, fmt.Sprintf("SamePlate %q %q", names, other), impl.SamePlate(names, other), false)
			same(t, fmt.Sprintf("SamePlate %q %q", names, names[:i]), impl.SamePlate(names, names[:i]), false)
			same(t, fmt.Sprintf("SamePlate %q %q", names[:i], names), impl.SamePlate(names[:i], names), false)
		}
	}
}

func TestApplyEdits(t *testing.T) {
	names := plateOf("bay", "", "isle")
	checkApplied(t, names, nil, "bay", "", "isle")
	checkApplied(t, names, []impl.Edit{edit(0, "bay", "port")}, "port", "", "isle")
	checkApplied(t, names, []impl.Edit{edit(1, "", "cape-2")}, "bay", "cape-2", "isle")
	checkApplied(t, names, []impl.Edit{edit(2, "isle", "")}, "bay", "", "")
	checkApplied(t, names, []impl.Edit{edit(2, "isle", "bay"), edit(0, "bay", "isle")}, "isle", "", "bay")
	// The first one, the last one, and the only one of all places.
	checkApplied(t, make([]string, maxEngraved), []impl.Edit{edit(0, "", "a"), edit(maxEngraved-1, "", "z")}, "a", "", "", "", "", "", "", "", "", "", "", "z")
	checkApplied(t, plateOf(""), []impl.Edit{edit(0, "", "a")}, "a")
	checkApplied(t, plateOf("a"), []impl.Edit{edit(0, "a", "")}, "")
	// An Old that stands there only after an edit before.
	checkApplied(t, names, way(0, "bay", "port", "cape-2"), "cape-2", "", "isle")
	checkApplied(t, names, way(1, "", "a", "b", "c", "d"), "bay", "d", "isle")
	checkApplied(t, names, []impl.Edit{edit(1, "", "a"), edit(0, "bay", ""), edit(1, "a", "bay"), edit(0, "", "a")}, "a", "bay", "isle")
	// Edits that undo each other: there and back, around over three names, and there and back twice.
	checkApplied(t, names, way(0, "bay", "port", "bay"), names...)
	checkApplied(t, names, way(0, "bay", "", "bay"), names...)
	checkApplied(t, names, way(1, "", "port", ""), names...)
	checkApplied(t, names, way(2, "isle", "a", "b", "isle"), names...)
	checkApplied(t, names, way(2, "isle", "a", "isle", "a", "isle"), names...)
	checkApplied(t, names, way(2, "isle", "a", "isle", "b", "isle", "c"), "bay", "", "c")
	checkApplied(t, names, thereAndBackAgain(maxEdits), names...)
	checkApplied(t, names, thereAndBackAgain(maxEdits-1), "", "", "isle")
}

func TestUndoEdits(t *testing.T) {
	names := plateOf("bay", "", "isle")
	checkUndone(t, names, nil, "bay", "", "isle")
	checkUndone(t, names, []impl.Edit{edit(0, "port", "bay")}, "port", "", "isle")
	checkUndone(t, names, []impl.Edit{edit(1, "cape-2", "")}, "bay", "cape-2", "isle")
	checkUndone(t, names, []impl.Edit{edit(2, "", "isle")}, "bay", "", "")
	checkUndone(t, plateOf("a", "", "", "", "", "", "", "", "", "", "", "z"), []impl.Edit{edit(0, "", "a"), edit(maxEngraved-1, "", "z")}, make([]string, maxEngraved)...)
	checkUndone(t, plateOf("a"), []impl.Edit{edit(0, "", "a")}, "")
	// In the order of the list, these edits could not be undone.
	checkUndone(t, names, way(0, "cape-2", "port", "bay"), "cape-2", "", "isle")
	checkUndone(t, names, way(1, "a", "b", "c", "d", ""), "bay", "a", "isle")
	checkUndone(t, names, []impl.Edit{edit(1, "port", "a"), edit(0, "a", ""), edit(1, "a", ""), edit(0, "", "bay")}, "a", "port", "isle")
	checkNotUndone(t, names, way(0, "bay", "port", "cape-2"), impl.ErrClash)
	// Edits that undo each other.
	checkUndone(t, names, way(0, "bay", "port", "bay"), names...)
	checkUndone(t, names, way(0, "bay", "", "bay"), names...)
	checkUndone(t, names, way(1, "", "port", ""), names...)
	checkUndone(t, names, way(2, "isle", "a", "b", "isle"), names...)
	checkUndone(t, names, way(2, "isle", "a", "isle", "a", "isle"), names...)
	checkUndone(t, names, way(2, "c", "isle", "b", "isle", "a", "isle"), "bay", "", "c")
	checkUndone(t, names, thereAndBackAgain(maxEdits), names...)
	checkUndone(t, plateOf("", "", "isle"), thereAndBackAgain(maxEdits-1), names...)
}

func TestEditsThatClash(t *testing.T) {
	names := plateOf("bay", "", "isle")
	for _, wrong := range []impl.Edit{
		edit(0, "port", "a"), edit(0, "", "a"), edit(1, "bay", "a"), edit(1, "a", ""), edit(2, "", "isle"), edit(2, "isl", "a"), edit(2, "isle-", "a"), edit(2, "bay", "isle"),
	} {
		// At the first place, at the last one, and between others.
		fits := []impl.Edit{edit(0, "bay", "b"), edit(0, "b", "bay")}
		checkNotApplied(t, names, []impl.Edit{wrong}, impl.ErrClash)
		checkNotApplied(t, names, slices.Concat([]impl.Edit{wrong}, fits), impl.ErrClash)
		checkNotApplied(t, names, slices.Concat(fits, []impl.Edit{wrong}), impl.ErrClash)
		checkNotApplied(t, names, slices.Concat(fits, []impl.Edit{wrong}, fits), impl.ErrClash)
		undone := edit(wrong.Place, wrong.New, wrong.Old)
		checkNotUndone(t, names, []impl.Edit{undone}, impl.ErrClash)
		checkNotUndone(t, names, slices.Concat([]impl.Edit{undone}, fits), impl.ErrClash)
		checkNotUndone(t, names, slices.Concat(fits, []impl.Edit{undone}), impl.ErrClash)
		checkNotUndone(t, names, slices.Concat(fits, []impl.Edit{undone}, fits), impl.ErrClash)
	}
	// An Old that does not stand there any more, or not yet.
	checkNotApplied(t, names, []impl.Edit{edit(0, "bay", "a"), edit(0, "bay", "b")}, impl.ErrClash)
	checkNotApplied(t, names, []impl.Edit{edit(0, "bay", "a"), edit(0, "bay", "a")}, impl.ErrClash)
	checkNotApplied(t, names, []impl.Edit{edit(1, "a", "b"), edit(1, "", "a")}, impl.ErrClash)
	checkNotApplied(t, names, append(way(0, "bay", "a", "bay"), edit(0, "a", "b")), impl.ErrClash)
	checkNotApplied(t, names, append(way(1, "", "a", ""), edit(1, "a", "b")), impl.ErrClash)
	checkNotApplied(t, names, append(thereAndBackAgain(maxEdits-1), edit(0, "bay", "a")), impl.ErrClash)
	checkNotUndone(t, names, []impl.Edit{edit(0, "a", "bay"), edit(0, "b", "bay")}, impl.ErrClash)
	checkNotUndone(t, names, []impl.Edit{edit(1, "a", ""), edit(1, "b", "a")}, impl.ErrClash)
	checkNotUndone(t, names, append([]impl.Edit{edit(0, "b", "a")}, way(0, "bay", "a", "bay")...), impl.ErrClash)
	// Applied edits cannot be applied again, nor edits undone that have not been applied.
	checkNotApplied(t, names, way(0, "port", "bay"), impl.ErrClash)
	checkNotUndone(t, names, way(0, "bay", "port"), impl.ErrClash)
}

// The first edit that does not fit decides, also if a later one does not fit for another reason.
func TestPlacesThatAreNoneOfThePlate(t *testing.T) {
	names := plateOf("bay", "", "isle")
	clash, beyond := edit(0, "port", "a"), edit(3, "", "a")
	fits := edit(1, "", "a")
	for place := range int64(maxEngraved) {
		x := edit(place, "", "port")
		for places := 1; places <= maxEngraved; places++ {
			want := int64(impl.OK)
			if int(place) >= places {
				want = impl.ErrRange
			}
			_, code := impl.ApplyEdits(make([]string, places), []impl.Edit{x})
			same(t, fmt.Sprint("ApplyEdits at ", place, " of ", places), code, want)
			_, code = impl.UndoEdits(make([]string, places), []impl.Edit{edit(place, "port", "")})
			same(t, fmt.Sprint("UndoEdits at ", place, " of ", places), code, want)
		}
	}
	// Nothing stands at a place that is none, so that no Old stands there either.
	for _, x := range []impl.Edit{beyond, edit(3, "isle", ""), edit(maxEngraved-1, "a", "b"), edit(maxEngraved-1, "", "a")} {
		checkNotApplied(t, names, []impl.Edit{x}, impl.ErrRange)
		checkNotUndone(t, names, []impl.Edit{x}, impl.ErrRange)
	}
	checkNotApplied(t, names, []impl.Edit{clash, beyond}, impl.ErrClash)
	checkNotApplied(t, names, []impl.Edit{beyond, clash}, impl.ErrRange)
	checkNotApplied(t, names, []impl.Edit{fits, clash, fits, beyond}, impl.ErrClash)
	checkNotApplied(t, names, []impl.Edit{fits, beyond, fits, clash}, impl.ErrRange)
	// The last one is undone first.
	checkNotUndone(t, names, []impl.Edit{clash, beyond}, impl.ErrRange)
	checkNotUndone(t, names, []impl.Edit{beyond, clash}, impl.ErrClash)
	checkNotUndone(t, names, []impl.Edit{clash, beyond, edit(1, "a", "")}, impl.ErrRange)
	checkNotUndone(t, names, []impl.Edit{beyond, clash, edit(1, "a", "")}, impl.ErrClash)
}

func TestEditsFollowTheRule(t *testing.T) {
	codes := map[int64]int{}
	for _, x := range editCases() {
		for _, names := range [][]string{x.names, make([]string, len(x.names)), slices.Repeat(plateOf("b"), maxEngraved)} {
			want := ruleApply(names, x.list)
			codes[want.code]++
			if want.code == impl.OK {
				checkApplied(t, names, x.list, want.names...)
				checkUndone(t, want.names, x.list, names...)
			} else {
				checkNotApplied(t, names, x.list, want.code)
			}
			want = ruleUndo(names, x.list)
			if want.code == impl.OK {
				checkUndone(t, names, x.list, want.names...)
			} else {
				checkNotUndone(t, names, x.list, want.code)
			}
		}
	}
	if codes[impl.OK] < 500 || codes[impl.ErrRange] < 50 || codes[impl.ErrClash] < 500 {
		t.Errorf("the cases have the codes %v", codes)
	}
}

func TestEditsBetween(t *testing.T) {
	checkEditsBetween(t, plateOf("a"), plateOf("a"))
	checkEditsBetween(t, plateOf(""), plateOf(""))
	checkEditsBetween(t, plateOf("a"), plateOf("b"), edit(0, "a", "b"))
	checkEditsBetween(t, plateOf("a"), plateOf(""), edit(0, "a", ""))
	checkEditsBetween(t, plateOf(""), plateOf("a"), edit(0, "", "a"))
	names := plateOf("bay", "", "isle")
	checkEditsBetween(t, names, names)
	// At one place, at the first, a middle and the last one.
	checkEditsBetween(t, names, plateOf("port", "", "isle"), edit(0, "bay", "port"))
	checkEditsBetween(t, names, plateOf("bay", "cape-2", "isle"), edit(1, "", "cape-2"))
	checkEditsBetween(t, names, plateOf("bay", "", ""), edit(2, "isle", ""))
	// At all places.
	checkEditsBetween(t, names, plateOf("isle", "bay", ""), edit(0, "bay", "isle"), edit(1, "", "bay"), edit(2, "isle", ""))
	var all []impl.Edit
	for place := range int64(maxEngraved) {
		all = append(all, edit(place, "", "a"))
	}
	checkEditsBetween(t, make([]string, maxEngraved), slices.Repeat(plateOf("a"), maxEngraved), all...)
	checkEditsBetween(t, slices.Repeat(plateOf("a"), maxEngraved), slices.Repeat(plateOf("a"), maxEngraved))
}

func TestShortEdits(t *testing.T) {
	checkShort(t, nil)
	for _, x := range rightEdits() {
		checkShort(t, []impl.Edit{x}, x)
	}
	checkShort(t, way(5, "a", "b", "c"), edit(5, "a", "c"))
	checkShort(t, way(5, "a", "", "c"), edit(5, "a", "c"))
	checkShort(t, way(5, "", "a", "b", "c", "d", "e"), edit(5, "", "e"))
	checkShort(t, way(maxEngraved-1, "a", "b", "c", ""), edit(maxEngraved-1, "a", ""))
	// Edits of several places, in any order.
	checkShort(t, []impl.Edit{edit(7, "", "a"), edit(2, "b", "c"), edit(0, "x", "y")}, edit(0, "x", "y"), edit(2, "b", "c"), edit(7, "", "a"))
	checkShort(t, []impl.Edit{edit(11, "a", "b"), edit(3, "k", "l"), edit(11, "b", "c"), edit(10, "", "m"), edit(3, "l", "")}, edit(3, "k", ""), edit(10, "", "m"), edit(11, "a", "c"))
	// Places do not mix, although their names would follow each other.
	checkShort(t, []impl.Edit{edit(0, "a", "b"), edit(1, "b", "c"), edit(2, "c", "a")}, edit(0, "a", "b"), edit(1, "b", "c"), edit(2, "c", "a"))
	checkShort(t, []impl.Edit{edit(0, "a", "b"), edit(1, "b", "a")}, edit(0, "a", "b"), edit(1, "b", "a"))
}

func TestEditsThatUndoEachOther(t *testing.T) {
	// There and back, around over three names, and there and back twice.
	for place := range int64(maxEngraved) {
		checkShort(t, way(place, "a", "b", "a"))
		checkShort(t, way(place, "a", "", "a"))
		checkShort(t, way(place, "", "a", ""))
		checkShort(t, way(place, "a", "b", "c", "a"))
		checkShort(t, way(place, "", "b", "c", ""))
		checkShort(t, way(place, "a", "b", "a", "b", "a"))
		checkShort(t, way(place, "", "b", "", "b", ""))
		checkShort(t, way(place, "a", "b", "a", "c", "a"))
	}
	for many := range maxEdits + 1 {
		if many%2 == 0 {
			checkShort(t, thereAndBackAgain(many))
		} else {
			checkShort(t, thereAndBackAgain(many), edit(0, "bay", ""))
		}
	}
	// On from where they lead back to.
	checkShort(t, way(4, "a", "b", "a", "c"), edit(4, "a", "c"))
	checkShort(t, way(4, "", "b", "", "c"), edit(4, "", "c"))
	checkShort(t, way(4, "a", "b", "c", "a", "b"), edit(4, "a", "b"))
	checkShort(t, way(4, "c", "a", "b", "a"), edit(4, "c", "a"))
	checkShort(t, way(4, "b", "a", "c", "a", "c"), edit(4, "b", "c"))
	// Beside others that stay, and with others in between.
	checkShort(t, []impl.Edit{edit(1, "a", "b"), edit(0, "k", "l"), edit(1, "b", "a")}, edit(0, "k", "l"))
	checkShort(t, []impl.Edit{edit(0, "a", "b"), edit(1, "a", "b"), edit(0, "b", "a"), edit(1, "b", "a")})
	checkShort(t, []impl.Edit{edit(0, "a", "b"), edit(1, "b", "a"), edit(1, "a", "b"), edit(0, "b", "a"), edit(2, "", "x")}, edit(2, "", "x"))
}

func TestEditsThatDoNotFollowEachOther(t *testing.T) {
	// At the second one, and at the last one.
	checkNotShort(t, edit(0, "a", "b"), edit(0, "c", "d"))
	checkNotShort(t, edit(0, "a", "b"), edit(0, "a", "b"))
	checkNotShort(t, edit(0, "a", "b"), edit(0, "a", "c"))
	checkNotShort(t, edit(0, "a", ""), edit(0, "a", "c"))
	checkNotShort(t, edit(0, "", "a"), edit(0, "", "c"))
	checkNotShort(t, edit(0, "", "a"), edit(0, "b", ""))
	checkNotShort(t, edit(maxEngraved-1, "a", "b"), edit(0, "b", "c"), edit(maxEngraved-1, "c", "a"))
	checkNotShort(t, append(way(7, "a", "b", "c", "d"), edit(7, "c", "e"))...)
	checkNotShort(t, append(thereAndBackAgain(maxEdits-1), edit(0, "bay", "a"))...)
	checkNotShort(t, edit(0, "b", "c"), edit(0, "a", "b"))
	// Behind edits that have undone each other, the place still has its name.
	checkNotShort(t, append(way(4, "a", "b", "a"), edit(4, "c", "d"))...)
	checkNotShort(t, append(way(4, "a", "b", "a"), edit(4, "b", "a"))...)
	checkNotShort(t, append(way(4, "a", "b", "a"), edit(4, "b", "c"))...)
	checkNotShort(t, append(way(4, "a", "b", "a"), edit(4, "", "c"))...)
	checkNotShort(t, append(way(4, "", "b", ""), edit(4, "c", "d"))...)
	checkNotShort(t, append(way(4, "", "b", ""), edit(4, "b", "d"))...)
	checkNotShort(t, append(way(4, "a", "b", "c", "a"), edit(4, "c", "a"))...)
	checkNotShort(t, append(way(4, "a", "b", "a", "b", "a"), edit(4, "b", "a"))...)
	checkNotShort(t, append(way(4, "a", "b", "a"), way(4, "c", "d", "c")...)...)
	checkNotShort(t, append(way(4, "a", "b", "a"), edit(5, "c", "d"), edit(4, "c", "d"))...)
	// The first and the last name are equal, or lead on, but something is missing between them.
	checkNotShort(t, edit(3, "a", "b"), edit(3, "c", "a"))
	checkNotShort(t, edit(3, "a", "b"), edit(3, "c", "b"))
	checkNotShort(t, append(way(3, "a", "b"), way(3, "c", "d", "a")...)...)
}

func TestShortEditsFollowTheRule(t *testing.T) {
	codes := map[int64]int{}
	for _, x := range editCases() {
		want, code := ruleShort(x.list)
		codes[code]++
		if code == impl.OK {
			checkShort(t, x.list, want...)
		} else {
			checkNotShort(t, x.list...)
		}
	}
	// All lists of up to four edits of one place between three names.
	var edits []impl.Edit
	for _, from := range []string{"", "a", "b"} {
		for _, to := range []string{"", "a", "b"} {
			if from != to {
				edits = append(edits, edit(6, from, to))
			}
		}
	}
	for many := range 5 {
		for number := range power(len(edits), many) {
			var list []impl.Edit
			for i := range many {
				list = append(list, edits[number/power(len(edits), i)%len(edits)])
			}
			if want, code := ruleShort(list); code == impl.OK {
				checkShort(t, list, want...)
			} else {
				checkNotShort(t, list...)
			}
		}
	}
	if codes[impl.OK] < 200 || codes[impl.ErrClash] < 200 {
		t.Errorf("the cases have the codes %v", codes)
	}
}

func TestMergePlates(t *testing.T) {
	base := plateOf("bay", "", "isle", "port")
	// Nobody, only a and only b differ from base.
	checkMerged(t, base, base, base, base...)
	checkMerged(t, base, plateOf("x", "", "isle", "port"), base, "x", "", "isle", "port")
	checkMerged(t, base, base, plateOf("x", "", "isle", "port"), "x", "", "isle", "port")
	checkMerged(t, base, plateOf("", "", "isle", "port"), base, "", "", "isle", "port")
	checkMerged(t, base, base, plateOf("bay", "a", "isle", "port"), "bay", "a", "isle", "port")
	checkMerged(t, base, plateOf("x", "a", "y", ""), base, "x", "a", "y", "")
	checkMerged(t, base, base, plateOf("x", "a", "y", ""), "x", "a", "y", "")
	// Both, at different places.
	checkMerged(t, base, plateOf("x", "", "isle", ""), plateOf("bay", "a", "y", "port"), "x", "a", "y", "")
	checkMerged(t, base, plateOf("bay", "a", "y", "port"), plateOf("x", "", "isle", ""), "x", "a", "y", "")
	// Both, in the same way.
	checkMerged(t, base, plateOf("x", "", "isle", "port"), plateOf("x", "", "isle", "port"), "x", "", "isle", "port")
	checkMerged(t, base, plateOf("", "a", "y", "z"), plateOf("", "a", "y", "z"), "", "a", "y", "z")
	checkMerged(t, base, plateOf("", "a", "isle", "q"), plateOf("", "", "y", "q"), "", "a", "y", "q")
	// Both have the name that the other one had at another place.
	checkMerged(t, plateOf("a", "b"), plateOf("b", "b"), plateOf("a", "a"), "b", "a")
	checkMerged(t, plateOf(""), plateOf("a"), plateOf(""), "a")
	checkMerged(t, plateOf(""), plateOf(""), plateOf("a"), "a")
	checkMerged(t, plateOf("a"), plateOf(""), plateOf(""), "")
	checkMerged(t, make([]string, maxEngraved), slices.Repeat(plateOf("a", ""), 6), slices.Repeat(plateOf("", "b"), 6), slices.Repeat(plateOf("a", "b"), 6)...)
}

func TestConflictsOf(t *testing.T) {
	base := plateOf("bay", "", "isle", "port")
	checkConflicts(t, base, plateOf("x", "", "isle", "port"), plateOf("y", "", "isle", "port"), 0)
	checkConflicts(t, base, plateOf("bay", "x", "isle", "port"), plateOf("bay", "y", "isle", "port"), 1)
	checkConflicts(t, base, plateOf("bay", "", "isle", "x"), plateOf("bay", "", "isle", "y"), 3)
	checkConflicts(t, base, plateOf("bay", "", "", "port"), plateOf("bay", "", "y", "port"), 2)
	checkConflicts(t, base, plateOf("bay", "", "y", "port"), plateOf("bay", "", "", "port"), 2)
	checkConflicts(t, base, plateOf("a", "b", "c", "d"), plateOf("e", "f", "g", "h"), 0, 1, 2, 3)
	checkConflicts(t, base, plateOf("", "b", "", "d"), plateOf("e", "f", "g", ""), 0, 1, 2, 3)
	// Beside places at which one of them differs, and at which both do in the same way.
	checkConflicts(t, base, plateOf("x", "a", "isle", "k"), plateOf("y", "", "z", "k"), 0)
	checkConflicts(t, base, plateOf("x", "a", "isle", "k"), plateOf("x", "", "z", "l"), 3)
	checkConflicts(t, base, plateOf("x", "a", "isle", "k"), plateOf("x", "b", "z", "l"), 1, 3)
	checkConflicts(t, base, plateOf("x", "a", "isle", "k"), plateOf("x", "a", "z", "k"))
	checkConflicts(t, base, base, plateOf("a", "b", "c", "d"))
	checkConflicts(t, base, plateOf("a", "b", "c", "d"), base)
	checkConflicts(t, plateOf("a"), plateOf("b"), plateOf("c"), 0)
	checkConflicts(t, plateOf("a"), plateOf("b"), plateOf(""), 0)
	checkConflicts(t, plateOf(""), plateOf("b"), plateOf("c"), 0)
	checkConflicts(t, plateOf(""), plateOf("b"), plateOf("b"))
	checkConflicts(t, make([]string, maxEngraved), slices.Repeat(plateOf("a"), maxEngraved), slices.Repeat(plateOf("b"), maxEngraved), allPoints(maxEngraved)...)
}

// plateTriples has three plates with as many places, many of which have some names in common.
func plateTriples() [][3][]string {
	var list [][3][]string
	r := rand.New(rand.NewSource(72))
	for range 100 {
		for places := 1; places <= maxEngraved; places++ {
			many := 2 + r.Intn(5)
			triple := [3][]string{drawnPlate(r, places, many), drawnPlate(r, places, many), drawnPlate(r, places, many)}
			// About as many have no conflict: each name is changed at one of the plates only.
			if r.Intn(2) == 0 {
				for place := range places {
					triple[1+r.Intn(2)][place] = triple[0][place]
				}
			}
			list = append(list, triple)
		}
	}
	names := []string{"", "a", "b"}
	for number := range 27 * 27 {
		var triple [3][]string
		for i := range triple {
			triple[i] = plateOf(names[number/power(3, 2*i)%3], names[number/power(3, 2*i+1)%3])
		}
		list = append(list, triple)
	}
	return list
}

func TestMergesFollowTheRule(t *testing.T) {
	merges, clashes := 0, 0
	for _, x := range plateTriples() {
		conflicts, merged := ruleMerge(x[0], x[1], x[2])
		if len(conflicts) == 0 {
			merges++
			checkMerged(t, x[0], x[1], x[2], merged...)
		} else {
			clashes++
			checkConflicts(t, x[0], x[1], x[2], conflicts...)
		}
	}
	if merges < 500 || clashes < 500 {
		t.Errorf("%d plates are merged, and %d clash", merges, clashes)
	}
}

func TestTextsOfEdits(t *testing.T) {
	checkReadEdit(t, "#0 a > b", edit(0, "a", "b"))
	checkReadEdit(t, "#9 a > -", edit(9, "a", ""))
	checkReadEdit(t, "#10 - > b", edit(10, "", "b"))
	checkReadEdit(t, "#11 abcdefghijkl > z-9876543210", edit(11, "abcdefghijkl", "z-9876543210"))
	checkReadEdit(t, "#1 a- > a--", edit(1, "a-", "a--"))
	for _, x := range rightEdits() {
		checkReadEdit(t, fmt.Sprintf("#%d %s > %s", x.Place, cmp.Or(x.Old, "-"), cmp.Or(x.New, "-")), x)
	}
	for _, x := range wrongEdits() {
		same(t, fmt.Sprintf("EditText %+v", x), impl.EditText(x), "")
	}
}

func TestTextsThatAreNoEdits(t *testing.T) {
	for _, s := range []string{
		"", " ", "#", "-", ">", "#3", "a > b", "- > a", "#3 a b", "#3 a >", "#3 > b", "#3 a > b c", "#3 a > b #4", "#3 a > b > c", "#3 #3 a > b", "#3 a > b #3 a > b",
		// Without #, with another mark, and with two.
		"3 a > b", "##3 a > b", "*3 a > b", "3# a > b", "# 3 a > b", "# a > b", "3 - > cape-2", "＃3 a > b",
		// Signs, zeros, and other digits.
		"#+3 a > b", "#-3 a > b", "#-0 a > b", "#-1 a > b", "#03 a > b", "#00 a > b", "#010 a > b", "#0x3 a > b", "#3. a > b", "#1_0 a > b", "#３ a > b", "#a a > b", "#- a > b",
		// Numbers that are no places.
		"#12 a > b", "#13 a > b", "#20 a > b", "#99 a > b", "#100 a > b", "#4294967299 a > b", "#9223372036854775807 a > b", "#-9223372036854775808 a > b", "#9223372036854775808 a > b",
		"#18446744073709551619 a > b", "#1000000000000000000 a > b", "#999999999999999999 a > b",
		// Blanks.
		" #3 a > b", "#3 a > b ", "#3  a > b", "#3 a  > b", "#3 a >  b", "#3 a > b\n", "#3\ta > b", "#3 a\u00a0> b", "#3 a>b", "#3 a> b", "#3 a >b", "#3a > b", "#3   > b", "#3  > b", "#3 a > ",
		// Other words in place of >.
		"#3 a < b", "#3 a - b", "#3 a -> b", "#3 a >> b", "#3 a = b", "#3 a to b", "#3 a ＞ b", "#3 a a b", "#3 > > b",
		// The same on both sides.
		"#3 - > -", "#3 a > a", "#0 cape-2 > cape-2", "#11 abcdefghijkl > abcdefghijkl",
		// Texts that are much too long.
		strings.Repeat("#", 100000), strings.Repeat(" ", 100000), strings.Repeat("#3 ", 100000), strings.Repeat("#3 a > b ", 20000), "#" + strings.Repeat("0", 100000) + "3 a > b",
		"#3 a > " + strings.Repeat("b", 100000), "#3 " + strings.Repeat("-", 100000) + " > b", "#3 a " + strings.Repeat(">", 100000) + " b", "#3 a >" + strings.Repeat(" ", 100000) + "b",
	} {
		checkNotRead(t, s)
	}
	for _, wrong := range wrongEngravings() {
		if wrong != "-" {
			checkNotRead(t, "#3 a > "+wrong)
			checkNotRead(t, "#3 "+wrong+" > b")
			checkNotRead(t, "#3 - > "+wrong)
			checkNotRead(t, "#3 "+wrong+" > "+wrong)
		}
	}
	for _, place := range wrongEditPlaces() {
		checkNotRead(t, "#"+strconv.FormatInt(place, 10)+" a > b")
	}
}

// nameIn returns the name for which a word of a text stands.
func nameIn(word string) string {
	if word == "-" {
		return ""
	}
	return word
}

// A text that differs from one of an edit by a character is read just if it has the form of another one.
func TestReadEditOfNearTexts(t *testing.T) {
	form := regexp.MustCompile(`^#([0-9]|1[01]) (-|[a-z][a-z0-9-]{0,11}) > (-|[a-z][a-z0-9-]{0,11})$`)
	for _, x := range append(rightEdits()[:40:40], edit(3, "", "cape-2"), edit(10, "abcdefghijkl", ""), edit(1, "a", "a0"), edit(11, "b-", "abcdefghijkl"), edit(0, "bay", "ba")) {
		for _, s := range nearTexts(impl.EditText(x), " #>-<0129aAz.\xffé") {
			parts := form.FindStringSubmatch(s)
			if parts == nil || parts[2] == parts[3] {
				checkNotRead(t, s)
				continue
			}
			place, _ := strconv.ParseInt(parts[1], 10, 64)
			checkReadEdit(t, s, edit(place, nameIn(parts[2]), nameIn(parts[3])))
		}
	}
}

// A plateCall is a call of a function with a plate in the place of one of its arguments; it returns all results, the code as the last one.
type plateCall struct {
	name string
	call func(names []string) []any
}

// callsOfPlates has the calls of all functions that refuse a plate that is not valid; the other arguments are as told.
func callsOfPlates(other, third []string, list []impl.Edit) []plateCall {
	return []plateCall{
		{"ApplyEdits", func(names []string) []any { return resultsOf(impl.ApplyEdits(names, list)) }},
		{"UndoEdits", func(names []string) []any { return resultsOf(impl.UndoEdits(names, list)) }},
		{"EditsBetween from", func(names []string) []any { return resultsOf(impl.EditsBetween(names, other)) }},
		{"EditsBetween to", func(names []string) []any { return resultsOf(impl.EditsBetween(other, names)) }},
		{"ConflictsOf base", func(names []string) []any { return resultsOf(impl.ConflictsOf(names, other, third)) }},
		{"ConflictsOf a", func(names []string) []any { return resultsOf(impl.ConflictsOf(other, names, third)) }},
		{"ConflictsOf b", func(names []string) []any { return resultsOf(impl.ConflictsOf(other, third, names)) }},
		{"MergePlates base", func(names []string) []any { return resultsOf(impl.MergePlates(names, other, third)) }},
		{"MergePlates a", func(names []string) []any { return resultsOf(impl.MergePlates(other, names, third)) }},
		{"MergePlates b", func(names []string) []any { return resultsOf(impl.MergePlates(other, third, names)) }},
	}
}

// An editsCall is a call of a function with a list of edits; it returns all results, the code as the last one.
type editsCall struct {
	name string
	call func(list []impl.Edit) []any
}

// callsOfEdits has the calls of all functions that refuse a list of edits that is not valid.
func callsOfEdits(names []string) []editsCall {
	return []editsCall{
		{"ApplyEdits", func(list []impl.Edit) []any { return resultsOf(impl.ApplyEdits(names, list)) }},
		{"UndoEdits", func(list []impl.Edit) []any { return resultsOf(impl.UndoEdits(names, list)) }},
		{"ShortEdits", func(list []impl.Edit) []any { return resultsOf(impl.ShortEdits(list)) }},
	}
}

// A plate that is not valid is refused whatever the other arguments are: the other plates may have another number of places or a conflict, and
// edits may not fit or not be valid.
func TestWrongPlatesAreRefused(t *testing.T) {
	lists := [][]impl.Edit{nil, way(0, "bay", "a", "bay"), way(0, "a", "b"), way(maxEngraved-1, "a", "b"), make([]impl.Edit, 1), thereAndBackAgain(maxEdits + 1)}
	for _, list := range lists {
		for _, x := range slices.Concat(
			callsOfPlates(plateOf("bay"), plateOf("a"), list), callsOfPlates(make([]string, maxEngraved), plateOf("a"), list),
			callsOfPlates(plateOf("a", "b", "c"), plateOf("b", "c", "a"), list), callsOfPlates(nil, plateOf("-"), list)) {
			for i, names := range wrongPlates() {
				checkRefused(t, fmt.Sprint(x.name, " of the wrong plate ", i), x.call(names), impl.ErrInvalid)
			}
		}
	}
}

// Edits that are not valid are refused before those that do not fit.
func TestWrongEditsAreRefused(t *testing.T) {
	for _, names := range [][]string{plateOf("bay"), plateOf(""), plateOf("bay", "", "isle"), make([]string, maxEngraved), wrongPlates()[0], wrongPlates()[2], plateOf("-")} {
		for _, x := range callsOfEdits(names) {
			for i, list := range wrongEditLists() {
				checkRefused(t, fmt.Sprintf("%s of %q and the wrong list %d", x.name, names, i), x.call(list), impl.ErrInvalid)
			}
			for _, wrong := range wrongEdits() {
				// Behind edits that clash at once, and behind one that is at no place of the plate.
				checkRefused(t, fmt.Sprintf("%s of %q and %+v", x.name, names, wrong), x.call([]impl.Edit{edit(0, "x", "y"), edit(0, "x", "y"), wrong}), impl.ErrInvalid)
				checkRefused(t, fmt.Sprintf("%s of %q and %+v", x.name, names, wrong), x.call([]impl.Edit{edit(maxEngraved-1, "x", "y"), wrong}), impl.ErrInvalid)
				checkRefused(t, fmt.Sprintf("%s of %q and %+v", x.name, names, wrong), x.call([]impl.Edit{wrong, edit(0, "x", "y")}), impl.ErrInvalid)
			}
		}
	}
}

// Plates with different numbers of places are refused before conflicts.
func TestPlatesWithDifferentNumbersOfPlaces(t *testing.T) {
	for first := 1; first <= maxEngraved; first++ {
		for second := 1; second <= maxEngraved; second++ {
			a, b := slices.Repeat(plateOf("a"), first), slices.Repeat(plateOf("b"), second)
			if first != second {
				checkRefused(t, fmt.Sprintf("EditsBetween %q %q", a, b), resultsOf(impl.EditsBetween(a, b)), impl.ErrRange)
				checkRefused(t, fmt.Sprintf("EditsBetween empty %d %d", first, second), resultsOf(impl.EditsBetween(make([]string, first), make([]string, second))), impl.ErrRange)
			}
			for third := 1; third <= maxEngraved; third++ {
				if first == second && second == third {
					continue
				}
				c := slices.Repeat(plateOf("c"), third)
				checkRefused(t, fmt.Sprintf("ConflictsOf %q %q %q", a, b, c), resultsOf(impl.ConflictsOf(a, b, c)), impl.ErrRange)
				checkRefused(t, fmt.Sprintf("MergePlates %q %q %q", a, b, c), resultsOf(impl.MergePlates(a, b, c)), impl.ErrRange)
				checkRefused(t, fmt.Sprintf("MergePlates empty %d %d %d", first, second, third), resultsOf(impl.MergePlates(make([]string, first), make([]string, second), make([]string, third))), impl.ErrRange)
			}
		}
	}
}
