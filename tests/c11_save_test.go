package tests

import (
	"slices"
	"testing"

	"loop.example/storeofkeys/impl"
)

// checkSave compares ValidSave with the document, and returns what that tells.
func checkSave(t *testing.T, s impl.Save) bool {
	t.Helper()
	want := wholeSave(s)
	if impl.ValidSave(s) != want {
		t.Errorf("ValidSave(%.300s) is not %v", saveText(s), want)
	}
	return want
}

// TestP82SavesCanBeCut leaves out the last steps of saves, any number of them,
// and changes saves so that they are valid still, or not.
func TestP82SavesCanBeCut(t *testing.T) {
	next := rolls(277)
	valid := map[bool]int{}
	manySaves(func(s impl.Save) {
		for n := range len(s.Steps) + 1 {
			if !checkSave(t, impl.Save{Full: s.Full, Steps: s.Steps[:n]}) {
				t.Fatalf("%s is not valid with %d steps", saveText(s), n)
			}
		}
		if len(s.Steps) < 4 {
			return
		}
		for range 3 {
			other := copySave(s)
			other.Steps[next(len(s.Steps))] = someOps(next, next(50), 15)
			valid[checkSave(t, other)]++
			other.Steps = append(other.Steps, someOps(next, 1, 2))
			valid[checkSave(t, other)]++
		}
	})
	if valid[true] < 200 || valid[false] < 200 {
		t.Errorf("%d are valid, %d are not", valid[true], valid[false])
	}
}

// TestP82Examples checks saves written out, up to as many pairs, changes and
// steps as there may be.
func TestP82Examples(t *testing.T) {
	for _, text := range []string{"", "a=", "a=x b=", "/", "a=/", "//////", "a=x//////", "/a=/a=", "/a-/a-", "/b= a=/a= a-", "a=/a- a=/zzz=wxyz/zzz-"} {
		if s := saveOf(text); !checkSave(t, s) {
			t.Errorf("%s is not valid", saveText(s))
		}
	}
	if !impl.ValidSave(impl.Save{}) || !impl.ValidSave(impl.Save{Full: []impl.Pair{}, Steps: [][]impl.Op{nil, {}}}) {
		t.Error("saves of nothing are not valid")
	}
	for steps := range 10 {
		for _, step := range [][]impl.Op{nil, opsOf("a="), opsOf("a-"), opsOfRun(longRun(0, 48, "-"))} {
			s := impl.Save{Full: rising(20), Steps: slices.Repeat([][]impl.Op{step}, steps)}
			if checkSave(t, s) != (steps <= 6) {
				t.Errorf("%d steps are valid, or are not", steps)
			}
		}
	}
}

// TestP82StatesInBetween checks saves with just as many pairs as there may be
// behind some step, and with one more, which the step behind it drops again.
func TestP82StatesInBetween(t *testing.T) {
	for size := range 27 {
		for added := range 27 {
			grown, dropped := opsOfRun(longRun(0, added, "x")), opsOfRun(longRun(0, added, "-"))
			if checkSave(t, impl.Save{Full: rising(size), Steps: [][]impl.Op{nil, grown, dropped}}) != (size+added <= 24) {
				t.Errorf("%d pairs and %d more, a step apart, are valid, or are not", size, added)
			}
			if added <= 24 && checkSave(t, impl.Save{Full: rising(size), Steps: [][]impl.Op{append(grown, dropped...)}}) != (size <= 24) {
				t.Errorf("%d pairs and %d more, in one step, are valid, or are not", size, added)
			}
		}
	}
	for changes := range 60 {
		if checkSave(t, impl.Save{Steps: [][]impl.Op{slices.Repeat(opsOf("a=x"), changes)}}) != (changes <= 48) {
			t.Errorf("%d changes are valid, or are not", changes)
		}
	}
}

// TestWrongSaves checks every function on saves that are not valid.
func TestWrongSaves(t *testing.T) {
	for _, s := range wrongSaves() {
		if checkSave(t, s) {
			t.Errorf("%.300s is valid", saveText(s))
		}
		if pairs, changes := impl.SizeOf(s); pairs != -1 || changes != -1 {
			t.Errorf("SizeOf(%.300s) = %d, %d", saveText(s), pairs, changes)
		}
		for n := -1; n < 8; n++ {
			if got, ok := impl.StateAt(s, n); ok || len(got) != 0 {
				t.Errorf("StateAt(%.300s, %d) = %s, %v", saveText(s), n, pairText(got), ok)
			}
			if got, ok := impl.CutSave(s, n); ok || !noSave(got) {
				t.Errorf("CutSave(%.300s, %d) = %s, %v", saveText(s), n, saveText(got), ok)
			}
			if got, ok := impl.MergeSave(s, n); ok || !noSave(got) {
				t.Errorf("MergeSave(%.300s, %d) = %s, %v", saveText(s), n, saveText(got), ok)
			}
		}
		for _, list := range [][]impl.Pair{nil, pairList("a= b=x"), rising(24), rising(25)} {
			if got, ok := impl.AddSave(s, list); ok || !noSave(got) {
				t.Errorf("AddSave(%.300s, %s) = %s, %v", saveText(s), pairText(list), saveText(got), ok)
			}
		}
	}
}

// TestP83NewSavesHaveTheirPairs makes saves of pairs, and of such as are not
// those of a store.
func TestP83NewSavesHaveTheirPairs(t *testing.T) {
	for _, list := range slices.Concat(fewStores("a", "aa", "b", "zzz"), walkedStores(200), manyStores()) {
		s, ok := impl.NewSave(list)
		if !ok || !sameSave(s, impl.Save{Full: list}) || !impl.ValidSave(s) {
			t.Errorf("NewSave(%s) = %s, %v", pairText(list), saveText(s), ok)
		}
		if got, fine := impl.StateAt(s, 0); !fine || !slices.Equal(got, list) || len(s.Steps) != 0 {
			t.Errorf("StateAt(%s, 0) = %s, %v", saveText(s), pairText(got), fine)
		}
	}
	for _, list := range wrongPairs() {
		if s, ok := impl.NewSave(list); ok || !noSave(s) {
			t.Errorf("NewSave(%.200s) = %.200s, %v", pairText(list), saveText(s), ok)
		}
	}
}

// checkStates compares the pairs behind all steps of a save with the document,
// and with those behind the changes of each step.
func checkStates(t *testing.T, s impl.Save) {
	t.Helper()
	for n := range len(s.Steps) + 1 {
		got, ok := impl.StateAt(s, n)
		if want, _ := stateModel(s, n); !ok || !slices.Equal(got, want) {
			t.Fatalf("StateAt(%s, %d) = %s, %v, want %s", saveText(s), n, pairText(got), ok, pairText(want))
		}
		if n == 0 {
			continue
		}
		ahead, _ := impl.StateAt(s, n-1)
		if want, fine := impl.ApplyOps(ahead, s.Steps[n-1]); !fine || !slices.Equal(got, want) {
			t.Errorf("StateAt(%s, %d) = %s, not %s behind %s", saveText(s), n, pairText(got), pairText(want), pairText(ahead))
		}
	}
	for _, n := range notSteps(len(s.Steps)) {
		if _, there := stateModel(s, n); there {
			continue
		}
		if got, ok := impl.StateAt(s, n); ok || len(got) != 0 {
			t.Errorf("StateAt(%s, %d) = %s, %v", saveText(s), n, pairText(got), ok)
		}
	}
}

// TestP84StatesComeOneBehindTheOther goes through the steps of saves.
func TestP84StatesComeOneBehindTheOther(t *testing.T) {
	manySaves(func(s impl.Save) { checkStates(t, s) })
}

// TestP84Examples checks the pairs behind the steps of saves written out.
func TestP84Examples(t *testing.T) {
	tests := []struct {
		save string
		want []string
	}{
		{"", []string{""}},
		{"a=x", []string{"a=x"}},
		{"a=x/", []string{"a=x", "a=x"}},
		{"a=x/a-/a=y", []string{"a=x", "", "a=y"}},
		{"a=x/a-/a-//a=", []string{"a=x", "", "", "", "a="}},
		{"a=x/a=x/a=x", []string{"a=x", "a=x", "a=x"}},
		{"b=/a= c=x b-/b=y a- a=z/c-", []string{"b=", "a= c=x", "a=z b=y c=x", "a=z b=y"}},
		{"//////b=x", []string{"", "", "", "", "", "", "b=x"}},
	}
	for _, test := range tests {
		s := saveOf(test.save)
		for n, want := range test.want {
			if got, ok := impl.StateAt(s, n); !ok || pairText(got) != want {
				t.Errorf("StateAt(%s, %d) = %s, %v, want %s", test.save, n, pairText(got), ok, want)
			}
		}
	}
}

// checkAddSave adds a step to a save as the document tells, and compares all pairs
// behind the steps.
func checkAddSave(t *testing.T, s impl.Save, list []impl.Pair) bool {
	t.Helper()
	got, ok := impl.AddSave(s, list)
	want, fine := addSaveModel(s, list)
	if ok != fine || !sameSave(got, want) {
		t.Fatalf("AddSave(%s, %s) = %s, %v, want %s, %v", saveText(s), pairText(list), saveText(got), ok, saveText(want), fine)
	}
	if !ok {
		return false
	}
	if last, there := impl.StateAt(got, len(s.Steps)+1); !there || !slices.Equal(last, list) || !impl.ValidSave(got) {
		t.Errorf("AddSave(%s, %s) = %s ends with %s", saveText(s), pairText(list), saveText(got), pairText(last))
	}
	for n := range len(s.Steps) + 1 {
		before, _ := impl.StateAt(s, n)
		if same, there := impl.StateAt(got, n); !there || !slices.Equal(same, before) {
			t.Errorf("AddSave(%s, %s) has %s behind %d steps", saveText(s), pairText(list), pairText(same), n)
		}
	}
	return true
}

// TestP85AddedStatesAreThere adds steps to saves, also to such as have as many
// as there may be.
func TestP85AddedStatesAreThere(t *testing.T) {
	next := rolls(281)
	stores := slices.Concat(fewStores("a", "ab", "b"), walkedStores(60), manyStores())
	added := map[bool]int{}
	manySaves(func(s impl.Save) {
		last, _ := stateModel(s, len(s.Steps))
		for _, list := range [][]impl.Pair{nil, last, rising(24), stores[next(len(stores))]} {
			added[checkAddSave(t, s, list)]++
		}
	})
	if added[true] < 1000 || added[false] < 100 {
		t.Errorf("a step is added to %d saves, and not to %d", added[true], added[false])
	}
}

// TestP85Examples adds steps to saves written out.
func TestP85Examples(t *testing.T) {
	tests := []struct{ save, list, want string }{
		{"", "", "/"},
		{"", "a=x", "/a=x"},
		{"a=x", "", "a=x/a-"},
		{"a=x", "a=x", "a=x/"},
		{"a=x", "a=", "a=x/a="},
		{"a=x/a-", "a=x", "a=x/a-/a=x"},
		{"a=x/a-", "", "a=x/a-/"},
		{"a=x/a=y b=z", "b=w", "a=x/a=y b=z/a- b=w"},
		{"b=/b- b=x b-/", "a= b=", "b=/b- b=x b-//a= b="},
		{"/////", "a=", "//////a="},
		{"//////", "a=", ""},
		{"a=x//////", "a=x", ""},
	}
	for _, test := range tests {
		got, ok := impl.AddSave(saveOf(test.save), pairList(test.list))
		if ok != (test.want != "") || !sameSave(got, saveOf(test.want)) {
			t.Errorf("AddSave(%s, %s) = %s, %v, want %s", test.save, test.list, saveText(got), ok, test.want)
		}
	}
}

// TestP85AsManyStepsAsMayBe adds steps to a save until it has as many as there
// may be, and goes on.
func TestP85AsManyStepsAsMayBe(t *testing.T) {
	s, _ := impl.NewSave(rising(24))
	for steps := 1; steps <= 6; steps++ {
		more, ok := impl.AddSave(s, rising(steps%2*24))
		if !ok || len(more.Steps) != steps {
			t.Fatalf("AddSave(%s) = %s, %v", saveText(s), saveText(more), ok)
		}
		s = more
	}
	for range 3 {
		if more, ok := impl.AddSave(s, rising(4)); ok || !noSave(more) {
			t.Errorf("AddSave(%s) = %s, %v", saveText(s), saveText(more), ok)
		}
	}
}

// TestP85WrongPairs adds pairs to saves that are not those of a store.
func TestP85WrongPairs(t *testing.T) {
	for _, list := range wrongPairs() {
		for _, s := range append(fullSaves(), saveOf(""), saveOf("a=x"), saveOf("a=x/a=/b="), saveOf("a= b= c= d= e= f=/")) {
			if got, ok := impl.AddSave(s, list); ok || !noSave(got) {
				t.Errorf("AddSave(%s, %.200s) = %.200s, %v", saveText(s), pairText(list), saveText(got), ok)
			}
		}
	}
}

// checkMergeSave merges two steps of a save as the document tells, and compares all
// pairs behind the steps but those between both.
func checkMergeSave(t *testing.T, s impl.Save, i int) bool {
	t.Helper()
	got, ok := impl.MergeSave(s, i)
	want, fine := mergeModel(s, i)
	if ok != fine || !sameSave(got, want) {
		t.Fatalf("MergeSave(%s, %d) = %s, %v, want %s, %v", saveText(s), i, saveText(got), ok, saveText(want), fine)
	}
	if !ok {
		return false
	}
	if !impl.ValidSave(got) || len(got.Steps) != len(s.Steps)-1 {
		t.Errorf("MergeSave(%s, %d) = %s has %d steps", saveText(s), i, saveText(got), len(got.Steps))
	}
	for n := range len(s.Steps) + 1 {
		before, _ := impl.StateAt(s, n)
		at := n
		if n > i {
			at--
		}
		if same, there := impl.StateAt(got, at); n != i+1 && (!there || !slices.Equal(same, before)) {
			t.Errorf("MergeSave(%s, %d) has %s behind %d steps", saveText(s), i, pairText(same), at)
		}
	}
	return true
}

// TestP86MergedStepsLeaveAllOtherStates merges any two steps of saves, and steps
// of which there is none, or none behind it.
func TestP86MergedStepsLeaveAllOtherStates(t *testing.T) {
	merged := map[bool]int{}
	manySaves(func(s impl.Save) {
		for i := range len(s.Steps) {
			merged[checkMergeSave(t, s, i)]++
		}
		for _, i := range notSteps(len(s.Steps)) {
			merged[checkMergeSave(t, s, i)]++
		}
	})
	if merged[true] < 1000 || merged[false] < 1000 {
		t.Errorf("%d are merged, %d are not", merged[true], merged[false])
	}
}

// TestP86Examples merges steps of saves written out.
func TestP86Examples(t *testing.T) {
	tests := []struct {
		save string
		i    int
		want string
		ok   bool
	}{
		{"a=x", 0, "", false},
		{"a=x/a=", 0, "", false},
		{"a=x/a=", -1, "", false},
		{"a=x/a=/b=", 1, "", false},
		{"a=x/a=/b=", -1, "", false},
		{"a=x/a=/b=", 0, "a=x/a= b=", true},
		{"a=x//", 0, "a=x/", true},
		{"a=x//a=y/", 0, "a=x/a=y/", true},
		{"a=x//a=y/", 1, "a=x//a=y", true},
		{"a=x//a=y/", 2, "", false},
		{"a=x/a-/a=x", 0, "a=x/a=x", true},
		{"/a=x/a-", 0, "/a-", true},
		{"/a=x b=/a- c=", 0, "/b= a- c=", true},
		{"/a=x a- b-/b=x b=y", 0, "/a- b=y", true},
		{"c=/a=x b=/b=y/b- c-/c=x", 1, "c=/a=x b=/b- c-/c=x", true},
		{"c=/a=x b=/b=y/b- c-/c=x", 2, "c=/a=x b=/b=y/b- c=x", true},
	}
	for _, test := range tests {
		got, ok := impl.MergeSave(saveOf(test.save), test.i)
		if ok != test.ok || !sameSave(got, saveOf(test.want)) {
			t.Errorf("MergeSave(%s, %d) = %s, %v, want %s, %v", test.save, test.i, saveText(got), ok, test.want, test.ok)
		}
	}
}

// TestP86JustAsManyChanges merges steps of as many changes as there may be
// together, and of more, all of one key, so that but one would be left.
func TestP86JustAsManyChanges(t *testing.T) {
	for first := range 49 {
		for _, second := range []int{0, 1, 24, 47 - first, 48 - first, 49 - first, 48} {
			if second < 0 || second > 48 {
				continue
			}
			s := impl.Save{Full: pairList("a="), Steps: [][]impl.Op{opsOf("b=x"), slices.Repeat(opsOf("a=x"), first), slices.Repeat(opsOf("a=y"), second)}}
			if checkMergeSave(t, s, 1) != (first+second <= 48) {
				t.Errorf("%d and %d changes are merged, or are not", first, second)
			}
		}
	}
}

// checkCut has a save begin later as the document tells, and compares all pairs
// behind the steps from there on.
func checkCut(t *testing.T, s impl.Save, n int) bool {
	t.Helper()
	got, ok := impl.CutSave(s, n)
	want, fine := cutModel(s, n)
	if ok != fine || !sameSave(got, want) {
		t.Fatalf("CutSave(%s, %d) = %s, %v, want %s, %v", saveText(s), n, saveText(got), ok, saveText(want), fine)
	}
	if !ok {
		return false
	}
	if !impl.ValidSave(got) || len(got.Steps) != len(s.Steps)-n {
		t.Errorf("CutSave(%s, %d) = %s has %d steps", saveText(s), n, saveText(got), len(got.Steps))
	}
	for at := n; at <= len(s.Steps); at++ {
		before, _ := impl.StateAt(s, at)
		if same, there := impl.StateAt(got, at-n); !there || !slices.Equal(same, before) {
			t.Errorf("CutSave(%s, %d) has %s behind %d steps", saveText(s), n, pairText(same), at-n)
		}
	}
	return true
}

// TestP87SavesThatBeginLaterEndTheSame has saves begin at each step, at their
// end, and at numbers at which there is no step.
func TestP87SavesThatBeginLaterEndTheSame(t *testing.T) {
	cut := map[bool]int{}
	manySaves(func(s impl.Save) {
		for n := range len(s.Steps) + 1 {
			cut[checkCut(t, s, n)]++
		}
		for _, n := range notSteps(len(s.Steps)) {
			cut[checkCut(t, s, n)]++
		}
	})
	if cut[true] < 1000 || cut[false] < 1000 {
		t.Errorf("%d are cut, %d are not", cut[true], cut[false])
	}
}

// TestP87Examples has saves written out begin later.
func TestP87Examples(t *testing.T) {
	tests := []struct {
		save string
		n    int
		want string
		ok   bool
	}{
		{"", 0, "", true},
		{"", 1, "", false},
		{"", -1, "", false},
		{"a=x", 0, "a=x", true},
		{"a=x", 1, "", false},
		{"a=x/", 0, "a=x/", true},
		{"a=x/", 1, "a=x", true},
		{"a=x/", 2, "", false},
		{"a=x/a-/b=", 0, "a=x/a-/b=", true},
		{"a=x/a-/b=", 1, "/b=", true},
		{"a=x/a-/b=", 2, "b=", true},
		{"a=x/a-/b=", 3, "", false},
		{"a=x/a-/b=", -1, "", false},
		{"a=x/b=y b=z/a- a=", 1, "a=x b=z/a- a=", true},
		{"//////", 6, "", true},
		{"//////", 2, "////", true},
	}
	for _, test := range tests {
		got, ok := impl.CutSave(saveOf(test.save), test.n)
		if ok != test.ok || !sameSave(got, saveOf(test.want)) {
			t.Errorf("CutSave(%s, %d) = %s, %v, want %s, %v", test.save, test.n, saveText(got), ok, test.want, test.ok)
		}
	}
}

// TestP88SizesAreCounted counts the pairs and the changes of saves.
func TestP88SizesAreCounted(t *testing.T) {
	manySaves(func(s impl.Save) {
		pairs, changes := impl.SizeOf(s)
		if wantPairs, wantChanges := sizeModel(s); pairs != wantPairs || changes != wantChanges {
			t.Errorf("SizeOf(%s) = %d, %d, want %d, %d", saveText(s), pairs, changes, wantPairs, wantChanges)
		}
		if first, ok := impl.StateAt(s, 0); !ok || len(first) != pairs {
			t.Errorf("SizeOf(%s) = %d, %d, but the first pairs are %d", saveText(s), pairs, changes, len(first))
		}
	})
}

// TestP88Examples counts the pairs and the changes of saves written out.
func TestP88Examples(t *testing.T) {
	tests := []struct {
		save           string
		pairs, changes int
	}{
		{"", 0, 0}, {"a=", 1, 0}, {"a= b=x", 2, 0}, {"/", 0, 0}, {"//////", 0, 0}, {"a=//", 1, 0}, {"/a=", 0, 1}, {"/a-", 0, 1},
		{"a=/a= a= a-/a-", 1, 4}, {"a= b= c=/a-/b-/c-", 3, 3}, {"a=x/a=y b=z/a- b=w", 1, 4}, {"///////", -1, -1}, {"b= a=", -1, -1},
	}
	for _, test := range tests {
		if pairs, changes := impl.SizeOf(saveOf(test.save)); pairs != test.pairs || changes != test.changes {
			t.Errorf("SizeOf(%s) = %d, %d, want %d, %d", test.save, pairs, changes, test.pairs, test.changes)
		}
	}
	s := impl.Save{Full: rising(24), Steps: slices.Repeat([][]impl.Op{opsOfRun(longRun(0, 48, "-"))}, 6)}
	if pairs, changes := impl.SizeOf(s); pairs != 24 || changes != 288 {
		t.Errorf("SizeOf the largest save = %d, %d", pairs, changes)
	}
}

// TestSavesAreFresh checks that results share no memory with arguments, nor with
// each other, nor within, and that arguments stay, with what is behind them.
func TestSavesAreFresh(t *testing.T) {
	next := rolls(283)
	stores := walkedStores(40)
	for i, given := range append(fullSaves(), walkedSaves(300)...) {
		s, kept, list := roomySave(given), roomySave(given), roomy(stores[i%len(stores)])
		keptList := slices.Clone(list[:cap(list)])
		saves, beside := []impl.Save{s}, [][]impl.Pair{list}
		for range 2 {
			made, _ := impl.NewSave(list)
			added, _ := impl.AddSave(s, list)
			short := impl.Save{Full: s.Full, Steps: s.Steps[:len(s.Steps)/2]}
			shorter, _ := impl.AddSave(short, list)
			saves = append(saves, made, added, shorter)
			for n := range len(s.Steps) + 1 {
				merged, _ := impl.MergeSave(s, n)
				cut, _ := impl.CutSave(s, n)
				state, _ := impl.StateAt(s, n)
				saves, beside = append(saves, merged, cut), append(beside, state)
			}
			impl.SizeOf(s)
			impl.StateAt(s, next(9))
		}
		if !sameSave(s, kept) || len(slices.Concat(s.Steps[len(s.Steps):cap(s.Steps)]...)) > 0 || !slices.Equal(s.Full[:cap(s.Full)], kept.Full[:cap(s.Full)]) || !slices.Equal(list[:cap(list)], keptList) {
			t.Fatalf("%s is now %s, or there is something behind it", saveText(kept), saveText(s))
		}
		for at, step := range s.Steps {
			if !slices.Equal(step[:cap(step)], kept.Steps[at][:cap(step)]) {
				t.Fatalf("%s is now %s, or there is something behind it", saveText(kept), saveText(s))
			}
		}
		if !savesApart(saves, beside...) {
			t.Errorf("%s: results share memory", saveText(kept))
		}
	}
}
