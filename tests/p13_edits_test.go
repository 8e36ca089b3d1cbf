package tests

import (
	"fmt"
	"math/rand"
	"slices"
	"testing"

	"loop.example/g01055/impl"
)

func editsBetween(t *testing.T, a, b []string) []impl.Edit {
	t.Helper()
	list, code := impl.EditsBetween(a, b)
	same(t, fmt.Sprintf("EditsBetween %q %q", a, b), code, impl.OK)
	return list
}

func shortEdits(t *testing.T, list []impl.Edit) []impl.Edit {
	t.Helper()
	short, code := impl.ShortEdits(list)
	same(t, fmt.Sprintf("ShortEdits %+v", list), code, impl.OK)
	return short
}

// platePairs has each two plates with as many places, and some more.
func platePairs() [][2][]string {
	var pairs [][2][]string
	for _, a := range rightPlates() {
		for _, b := range rightPlates() {
			if len(a) == len(b) {
				pairs = append(pairs, [2][]string{a, b})
			}
		}
	}
	for _, x := range plateTriples() {
		pairs = append(pairs, [2][]string{x[0], x[1]}, [2][]string{x[2], x[0]})
	}
	return pairs
}

// differences returns at how many places two plates differ.
func differences(a, b []string) int {
	many := 0
	for place := range a {
		if a[place] != b[place] {
			many++
		}
	}
	return many
}

func TestCorrectionsLeadFromOnePlateToAnotherAndBack(t *testing.T) {
	for _, x := range platePairs() {
		a, b := x[0], x[1]
		list := editsBetween(t, a, b)
		what := fmt.Sprintf("EditsBetween %q %q", a, b)
		same(t, what+": valid", impl.ValidEdits(list), true)
		same(t, what+": SamePlate", len(list) == 0, impl.SamePlate(a, b))
		// An edit changes one place only, so that no fewer edits lead from one plate to the other one.
		same(t, what+": length", len(list), differences(a, b))
		checkApplied(t, a, list, b...)
		checkUndone(t, b, list, a...)
		checkApplied(t, b, editsBetween(t, b, a), a...)
		checkShort(t, list, list...)
		// As each place has one edit, they may be applied in any order.
		back := slices.Clone(list)
		slices.Reverse(back)
		checkApplied(t, a, back, b...)
		checkUndone(t, b, back, a...)
		checkShort(t, back, list...)
	}
}

// What is left out of the corrections is missing.
func TestEachCorrectionIsNeeded(t *testing.T) {
	for _, x := range platePairs() {
		a, b := x[0], x[1]
		for i, missing := range editsBetween(t, a, b) {
			almost := slices.Clone(b)
			almost[missing.Place] = a[missing.Place]
			checkApplied(t, a, slices.Delete(editsBetween(t, a, b), i, i+1), almost...)
		}
	}
}

func TestAppliedEditsAreUndone(t *testing.T) {
	r := rand.New(rand.NewSource(73))
	for _, names := range rightPlates() {
		for range 20 {
			list := drawnEdits(r, names, r.Intn(maxEdits+1), 0)
			after, code := impl.ApplyEdits(names, list)
			same(t, fmt.Sprintf("ApplyEdits %q %+v", names, list), code, impl.OK)
			same(t, fmt.Sprintf("ValidPlate %q", after), impl.ValidPlate(after), true)
			checkUndone(t, after, list, names...)
			// The edits that lead back, one after the other.
			var back []impl.Edit
			for _, x := range slices.Backward(list) {
				back = append(back, edit(x.Place, x.New, x.Old))
			}
			checkApplied(t, after, back, names...)
			checkUndone(t, names, back, after...)
			if 2*len(list) <= maxEdits {
				checkApplied(t, names, slices.Concat(list, back), names...)
				checkShort(t, slices.Concat(list, back))
			}
		}
	}
}

func TestShortEditsLeadToTheSamePlate(t *testing.T) {
	r := rand.New(rand.NewSource(74))
	shorter := 0
	for _, names := range rightPlates() {
		for range 20 {
			list := drawnEdits(r, names, r.Intn(maxEdits+1), 0)
			after, code := impl.ApplyEdits(names, list)
			same(t, fmt.Sprintf("ApplyEdits %q %+v", names, list), code, impl.OK)
			short := shortEdits(t, list)
			if len(short) < len(list) {
				shorter++
			}
			checkApplied(t, names, short, after...)
			checkUndone(t, after, short, names...)
			checkEditsBetween(t, names, after, short...)
			checkShort(t, short, short...)
			// A list may be made short in two steps.
			at := r.Intn(len(list) + 1)
			checkShort(t, slices.Concat(shortEdits(t, list[:at]), list[at:]), short...)
			checkShort(t, slices.Concat(shortEdits(t, list[:at]), shortEdits(t, list[at:])), short...)
		}
	}
	if shorter < 500 {
		t.Errorf("%d lists become shorter", shorter)
	}
}

// What cannot be made short cannot be applied to any plate: the first edits of all places tell the only names that it may have there.
func TestEditsThatCannotBeShortFitNoPlate(t *testing.T) {
	clashes := 0
	for _, x := range editCases() {
		names := make([]string, maxEngraved)
		for _, e := range slices.Backward(x.list) {
			names[e.Place] = e.Old
		}
		_, code := impl.ShortEdits(x.list)
		if code == impl.ErrClash {
			clashes++
			checkNotApplied(t, names, x.list, impl.ErrClash)
		} else {
			checkApplied(t, names, shortEdits(t, x.list), ruleApply(names, x.list).names...)
		}
	}
	if clashes < 200 {
		t.Errorf("%d lists clash", clashes)
	}
}

func TestMergedPlatesHaveAllCorrections(t *testing.T) {
	merges := 0
	for _, x := range plateTriples() {
		base, a, b := x[0], x[1], x[2]
		what := fmt.Sprintf("MergePlates %q %q %q", base, a, b)
		conflicts, code := impl.ConflictsOf(base, a, b)
		same(t, what, code, impl.OK)
		if len(conflicts) > 0 {
			checkRefused(t, what, resultsOf(impl.MergePlates(base, a, b)), impl.ErrClash)
			continue
		}
		merges++
		merged, code := impl.MergePlates(base, a, b)
		same(t, what, code, impl.OK)
		same(t, what+": ValidPlate", impl.ValidPlate(merged), true)
		checkMerged(t, base, b, a, merged...)
		// Each correction is there, and there are no others.
		fromA, fromB := editsBetween(t, base, a), editsBetween(t, base, b)
		for _, e := range slices.Concat(fromA, fromB) {
			same(t, what+": "+impl.EditText(e), merged[e.Place], e.New)
		}
		for _, e := range editsBetween(t, base, merged) {
			if !slices.Contains(fromA, e) && !slices.Contains(fromB, e) {
				t.Errorf("%s: %s is a correction of none", what, impl.EditText(e))
			}
		}
		// The corrections of one plate lead on from the other one, but for those that are there already.
		only := slices.DeleteFunc(slices.Clone(fromB), func(e impl.Edit) bool { return slices.Contains(fromA, e) })
		checkApplied(t, a, only, merged...)
		checkEditsBetween(t, a, merged, only...)
		// Plates that are merged once more stay as they are.
		checkMerged(t, base, merged, a, merged...)
		checkMerged(t, base, b, merged, merged...)
	}
	if merges < 500 {
		t.Errorf("%d plates are merged", merges)
	}
}

// Without corrections of one plate, merged plates are the other one; with the same corrections, they are as both.
func TestPlatesAreMergedWithThemselves(t *testing.T) {
	for _, x := range platePairs() {
		checkMerged(t, x[0], x[0], x[1], x[1]...)
		checkMerged(t, x[0], x[1], x[0], x[1]...)
		checkMerged(t, x[0], x[1], x[1], x[1]...)
		checkMerged(t, x[0], x[0], x[0], x[0]...)
	}
}

// At a conflict, the correction of each plate clashes with the other one; without these places, the plates are merged.
func TestConflictsAreCorrectionsThatClash(t *testing.T) {
	for _, x := range plateTriples() {
		base, a, b := x[0], x[1], x[2]
		conflicts, code := impl.ConflictsOf(base, a, b)
		same(t, fmt.Sprintf("ConflictsOf %q %q %q", base, a, b), code, impl.OK)
		checkConflicts(t, base, b, a, conflicts...)
		other := slices.Clone(b)
		for _, place := range conflicts {
			checkNotApplied(t, a, []impl.Edit{edit(place, base[place], b[place])}, impl.ErrClash)
			checkNotApplied(t, b, []impl.Edit{edit(place, base[place], a[place])}, impl.ErrClash)
			checkRefused(t, fmt.Sprintf("MergePlates %q %q %q", base, a, other), resultsOf(impl.MergePlates(base, a, other)), impl.ErrClash)
			other[place] = a[place]
		}
		_, merged := ruleMerge(base, a, other)
		checkMerged(t, base, a, other, merged...)
	}
}

func TestEditsAreReadBackFromTheirTexts(t *testing.T) {
	edits := rightEdits()
	for _, c := range editCases() {
		edits = append(edits, c.list...)
	}
	texts := map[string]impl.Edit{}
	for _, x := range edits {
		s := impl.EditText(x)
		checkReadEdit(t, s, x)
		if other, isThere := texts[s]; isThere && other != x {
			t.Errorf("%+v and %+v have the same text", x, other)
		}
		texts[s] = x
	}
}
