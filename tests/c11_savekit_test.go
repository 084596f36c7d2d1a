package tests

import (
	"math"
	"slices"
	"strconv"
	"strings"

	"loop.example/storeofkeys/impl"
)

// saveOf reads a save: its first pairs, and a / ahead of each of its steps.
func saveOf(text string) impl.Save {
	parts := strings.Split(text, "/")
	s := impl.Save{Full: pairList(parts[0])}
	for _, part := range parts[1:] {
		s.Steps = append(s.Steps, opsOf(part))
	}
	return s
}

// saveText writes a save as saveOf reads it, with spaces around each /.
func saveText(s impl.Save) string {
	parts := []string{pairText(s.Full)}
	for _, step := range s.Steps {
		parts = append(parts, opsText(step))
	}
	return strings.Join(parts, " / ")
}

// sameSave reports whether two saves have the same pairs and the same steps.
func sameSave(a, b impl.Save) bool {
	return slices.Equal(a.Full, b.Full) && slices.EqualFunc(a.Steps, b.Steps, slices.Equal[[]impl.Op])
}

// noSave reports whether a save is the zero value.
func noSave(s impl.Save) bool {
	return len(s.Full) == 0 && len(s.Steps) == 0
}

// copySave returns a save that shares nothing with another one.
func copySave(s impl.Save) impl.Save {
	other := impl.Save{Full: slices.Clone(s.Full)}
	for _, step := range s.Steps {
		other.Steps = append(other.Steps, slices.Clone(step))
	}
	return other
}

// pairsAt tells the pairs behind the first steps of a save: those behind the
// changes of all of them at once.
func pairsAt(s impl.Save, n int) []impl.Pair {
	return behindOps(s.Full, slices.Concat(s.Steps[:n]...))
}

// wholeSave tells by the document what saves are valid.
func wholeSave(s impl.Save) bool {
	if !wholePairs(s.Full) || len(s.Steps) > 6 {
		return false
	}
	for i, step := range s.Steps {
		if !wholeOps(step) || len(pairsAt(s, i+1)) > 24 {
			return false
		}
	}
	return true
}

// stateModel tells the pairs behind some steps of a valid save.
func stateModel(s impl.Save, n int) ([]impl.Pair, bool) {
	if n < 0 || n > len(s.Steps) {
		return nil, false
	}
	return pairsAt(s, n), true
}

// addSaveModel tells a valid save with one more step.
func addSaveModel(s impl.Save, list []impl.Pair) (impl.Save, bool) {
	if len(s.Steps) > 5 || !wholePairs(list) {
		return impl.Save{}, false
	}
	more := copySave(s)
	more.Steps = append(more.Steps, opsForModel(pairsAt(s, len(s.Steps)), list))
	return more, true
}

// mergeModel tells a valid save with two steps in one.
func mergeModel(s impl.Save, i int) (impl.Save, bool) {
	if i < 0 || i > len(s.Steps)-2 || len(s.Steps[i])+len(s.Steps[i+1]) > 48 {
		return impl.Save{}, false
	}
	fewer := copySave(s)
	fewer.Steps[i] = shortModel(append(fewer.Steps[i], fewer.Steps[i+1]...))
	fewer.Steps = slices.Delete(fewer.Steps, i+1, i+2)
	return fewer, true
}

// cutModel tells a valid save that begins later.
func cutModel(s impl.Save, n int) (impl.Save, bool) {
	full, ok := stateModel(s, n)
	if !ok {
		return impl.Save{}, false
	}
	return impl.Save{Full: full, Steps: copySave(s).Steps[n:]}, true
}

// sizeModel tells how many pairs and changes a valid save has.
func sizeModel(s impl.Save) (int, int) {
	changes := 0
	for _, step := range s.Steps {
		changes += len(step)
	}
	return len(s.Full), changes
}

// eachSave calls f with all saves of few pairs and at most so many small steps,
// of which some have no changes, and some that change nothing.
func eachSave(size int, f func(s impl.Save)) {
	choice := [][]impl.Op{nil, opsOf("a="), opsOf("a-"), opsOf("ab=x"), opsOf("ab- a=x"), opsOf("a= a-"), opsOf("b=x a- b=")}
	var grow func(s impl.Save)
	grow = func(s impl.Save) {
		f(s)
		for _, step := range choice {
			if len(s.Steps) < size {
				grow(impl.Save{Full: s.Full, Steps: slices.Concat(s.Steps, [][]impl.Op{step})})
			}
		}
	}
	for _, list := range fewStores("a", "ab") {
		grow(impl.Save{Full: list})
	}
}

// someSave returns a valid save of at most so many steps, with at most so many
// changes each. A step with too many pairs behind it is one without changes.
func someSave(next func(int) int, steps, changes, letters int) impl.Save {
	list := behindOps(nil, someOps(next, next(60), letters))
	s := impl.Save{Full: list[:min(24, len(list))]}
	for range steps {
		s.Steps = append(s.Steps, someOps(next, next(changes+1), letters))
		if len(pairsAt(s, len(s.Steps))) > 24 {
			s.Steps[len(s.Steps)-1] = nil
		}
	}
	return s
}

// walkedSaves returns valid saves of any size.
func walkedSaves(count int) []impl.Save {
	next := rolls(271)
	var all []impl.Save
	for i := range count {
		all = append(all, someSave(next, i%7, []int{3, 12, 30, 48}[i/7%4], 2+next(12)))
	}
	return all
}

// fullSaves returns saves with as many pairs, steps and changes as there may be,
// two steps with just as many changes as may be merged, and one more, steps with
// more pairs on their way than at their end, and steps without changes.
func fullSaves() []impl.Save {
	filled, emptied := opsOfRun(longRun(0, 24, "x")), opsOfRun(longRun(0, 24, "-"))
	long, most := opsOfRun(longRun(0, 48, "-")), opsOfRun(append(longRun(24, 24, "y"), longRun(0, 24, "-")...))
	half, more := slices.Repeat(opsOf("a=x b- a="), 8), slices.Repeat(opsOf("c= a- c- b=y a="), 5)
	return []impl.Save{
		{Full: rising(24)},
		{Full: rising(24), Steps: make([][]impl.Op, 6)},
		{Steps: make([][]impl.Op, 6)},
		{Full: rising(24), Steps: [][]impl.Op{long, long, nil, long, long, long}},
		{Steps: [][]impl.Op{filled, emptied, filled, emptied, filled, most}},
		{Steps: [][]impl.Op{filled, most, filled[:0], opsOfRun(longRun(24, 24, "-")), filled, emptied}},
		{Full: pairList("a= b="), Steps: [][]impl.Op{half, half, more, half, more, nil}},
		{Full: rising(23), Steps: [][]impl.Op{opsOf("a="), opsOf("aa= a-"), slices.Repeat(opsOf("ab= ab-"), 24), opsOf("b- ab=")}},
		{Full: rising(24), Steps: [][]impl.Op{slices.Repeat(opsOf("b=x"), 48), opsOf("b=x"), nil, slices.Repeat(opsOf("c-"), 48), nil}},
		{Full: rising(24), Steps: [][]impl.Op{slices.Repeat(opsOf("b=x"), 47), opsOf("b=x"), opsOf("b-"), slices.Repeat(opsOf("c-"), 47)}},
	}
}

// manySaves calls f with all few saves, with full ones, and with walked ones.
func manySaves(f func(s impl.Save)) {
	eachSave(3, f)
	for _, s := range append(fullSaves(), walkedSaves(500)...) {
		f(s)
	}
}

// notSteps returns numbers at which a save of so many steps has none.
func notSteps(steps int) []int {
	return []int{-1, -2, -steps, -steps - 1, steps + 1, steps + 2, 7, 8, 256, 256 + 1, 1 << 32, 1<<32 + 1, math.MaxInt, math.MaxInt - 1, math.MinInt, math.MinInt + 1}
}

// wrongSaves returns saves that are not valid, each for one reason.
func wrongSaves() []impl.Save {
	wrong := []impl.Save{
		{Steps: make([][]impl.Op, 7)}, {Full: rising(24), Steps: make([][]impl.Op, 7)}, {Steps: make([][]impl.Op, 100000)},
		{Full: pairList("a="), Steps: slices.Repeat([][]impl.Op{opsOf("a=x")}, 7)},
		{Full: rising(24), Steps: [][]impl.Op{opsOf("a=")}}, {Full: rising(24), Steps: [][]impl.Op{opsOf("a="), opsOf("a-")}},
		{Full: rising(24), Steps: [][]impl.Op{nil, opsOf("b- a= aa="), nil, opsOf("a-")}},
		{Full: rising(23), Steps: [][]impl.Op{opsOf("a="), opsOf("aa=x"), opsOf("b- c-")}},
		{Steps: [][]impl.Op{opsOfRun(longRun(0, 25, "x"))}}, {Steps: [][]impl.Op{opsOfRun(longRun(0, 48, "x")), opsOfRun(longRun(0, 48, "-"))}},
		{Steps: [][]impl.Op{nil, nil, nil, nil, nil, opsOfRun(longRun(0, 25, ""))}},
		{Steps: [][]impl.Op{opsOfRun(longRun(0, 20, "")), opsOfRun(longRun(15, 10, ""))}},
	}
	for _, list := range wrongPairs() {
		wrong = append(wrong, impl.Save{Full: list}, impl.Save{Full: list, Steps: [][]impl.Op{nil}}, impl.Save{Full: list, Steps: [][]impl.Op{opsOf("a- b- c- d- e- f-"), nil}})
	}
	for i, step := range wrongOps() {
		wrong = append(wrong, impl.Save{Steps: [][]impl.Op{step}})
		for at := i % 3; at < 6; at += 3 {
			s := impl.Save{Full: pairList("a= c=x"), Steps: [][]impl.Op{opsOf("a=x"), nil, opsOf("b= c-"), opsOf("a- a="), opsOf("zzz=wxyz"), nil}}
			s.Steps[at] = step
			wrong = append(wrong, s)
		}
	}
	return wrong
}

// roomySave returns a save with room behind all that is in it.
func roomySave(s impl.Save) impl.Save {
	other := impl.Save{Full: roomy(s.Full), Steps: make([][]impl.Op, 0, 9)}
	for _, step := range s.Steps {
		other.Steps = append(other.Steps, roomy(step))
	}
	return other
}

// savesApart reports whether no two lists of pairs or changes of some saves
// share memory, nor two of their lists of steps, nor the pairs beside them,
// their spare capacity included. It writes over all.
func savesApart(saves []impl.Save, beside ...[]impl.Pair) bool {
	var steps [][]impl.Op
	var lists [][][]impl.Op
	for _, s := range saves {
		steps = append(steps, s.Steps...)
		lists = append(lists, s.Steps)
		beside = append(beside, s.Full)
	}
	apart := listsApart(func(i int) impl.Op { return impl.Op{Key: strconv.Itoa(i)} }, steps...)
	return pairsApart(beside) && outerApart(lists...) && apart
}
