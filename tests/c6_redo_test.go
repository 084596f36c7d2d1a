package tests

import (
	"slices"
	"testing"

	"loop.example/storeofkeys/impl"
)

// TestP44HistoriesCanBeCut cuts histories at each place, and changes a field of
// each record, so that they are a history still, or not.
func TestP44HistoriesCanBeCut(t *testing.T) {
	valid := map[bool]int{}
	manyHistories(func(list []impl.Rec) {
		for at := range len(list) + 1 {
			if !impl.ValidRecs(list[:at]) {
				t.Fatalf("%s: cut at %d it is no history", recsText(list), at)
			}
		}
	})
	for _, list := range walkedRecs(120) {
		for at, r := range list {
			for _, near := range recsNear(r) {
				other := slices.Clone(list)
				other[at] = near
				for _, recs := range [][]impl.Rec{other, other[:at+1]} {
					want := wholeRecs(recs)
					if impl.ValidRecs(recs) != want {
						t.Errorf("ValidRecs(%s) is not %v", recsText(recs), want)
					}
					valid[want]++
				}
			}
		}
	}
	if valid[true] < 1000 || valid[false] < 1000 {
		t.Errorf("%d are histories, %d are not", valid[true], valid[false])
	}
}

// TestP44FewRecords puts each of few records behind each history of them.
func TestP44FewRecords(t *testing.T) {
	choice := fewRecs()
	eachHistory(4, func(list []impl.Rec) {
		for _, r := range choice {
			if recs := behind(list, r); impl.ValidRecs(recs) != mayFollow(list, r) {
				t.Errorf("ValidRecs(%s) is not %v", recsText(recs), mayFollow(list, r))
			}
		}
	})
}

// TestP44OrderOfRecords leaves out each record of histories, has it twice, and
// lets it change places with the next one.
func TestP44OrderOfRecords(t *testing.T) {
	for _, list := range walkedRecs(300) {
		for at, r := range list {
			without := slices.Delete(slices.Clone(list), at, at+1)
			twice := slices.Insert(slices.Clone(list), at, r)
			changed := slices.Insert(slices.Clone(without), min(at+1, len(without)), r)
			for _, recs := range [][]impl.Rec{without, twice, changed} {
				if impl.ValidRecs(recs) != wholeRecs(recs) {
					t.Errorf("ValidRecs(%s) is not %v", recsText(recs), wholeRecs(recs))
				}
			}
		}
	}
}

// TestP44Examples checks histories written out.
func TestP44Examples(t *testing.T) {
	for _, text := range []string{
		"", "1.", "1!", "4.", "4!", "1. 2. 3. 4.", "1! 2. 3! 4.", "4. 3! 2. 1!",
		"1a05", "4c09", "1a00", "1a00 1<a00 1!", "1a05 1a56", "1a05 1a55", "1a05 1b05 1c05", "1a05 2b06 3c07", "1a09 1a90",
		"1a05 1.", "1a05 1<a50", "1a05 1<a50 1!", "1a05 1a56 1<a65", "1a05 1a56 1<a65 1<a50 1!", "1a05 1b06 1a57 1<a75 1<b60 1<a50 1!",
		"1a05 1. 2a56", "1a05 1<a50 1! 2a06", "1a05 1. 2a56 2<a65 2! 3a57 3.", "2a05 1b06 2<a50 1<b60 1! 2!", "1a05 2b06 2<b60",
		"1a05 2. 1a56 1.", "1a05 2! 1.", "1a05 1<a50 2b06 1! 2a07", "1a05 1. 2a56 2. 3a67 3. 4a78 4.",
	} {
		if !impl.ValidRecs(recsOf(text)) || !wholeRecs(recsOf(text)) {
			t.Errorf("%q is no history: %v", text, wholeRecs(recsOf(text)))
		}
	}
	if !impl.ValidRecs(nil) || !impl.ValidRecs([]impl.Rec{}) {
		t.Error("no records are no history")
	}
	for _, list := range fullRecs() {
		if len(list) != 24 || !impl.ValidRecs(list) {
			t.Errorf("%s is no history", recsText(list))
		}
	}
	for _, list := range longRecs(100) {
		if len(list) <= 24 || !followingRecs(list) || impl.ValidRecs(list) {
			t.Errorf("%s is one of at most 24 records", recsText(list))
		}
	}
}

// TestWrongRecs checks every function on records that are no history.
func TestWrongRecs(t *testing.T) {
	for _, text := range wrongHistories {
		if list := recsOf(text); !impl.ValidRecs(list[:len(list)-1]) {
			t.Errorf("%q is wrong ahead of its last record", text)
		}
	}
	wrong := wrongRecs()
	for _, list := range wrong {
		if impl.ValidRecs(list) || wholeRecs(list) {
			t.Errorf("ValidRecs(%s) is %v", recsText(list), impl.ValidRecs(list))
		}
		if got := impl.UndoRecs(list); len(got) != 0 {
			t.Errorf("UndoRecs(%s) = %s", recsText(list), recsText(got))
		}
	}
	for _, list := range slices.Concat(wrong, longRecs(100)) {
		if run, open, done := impl.RunRecs(list), impl.OpenOf(list), impl.DoneState(list); len(run)+len(open)+len(done) != 0 {
			t.Errorf("%s: RunRecs = %v, OpenOf = %v, DoneState = %v", recsText(list), run, open, done)
		}
		for _, kept := range append(wrongKept(len(list)), []int{0, 0, 0}, []int{1, 1, 1}, []int{len(list), len(list), len(list)}, []int{24, 24, 24}) {
			if disk, redo, end := impl.DiskAfter(list, kept), impl.RedoRecs(list, kept), impl.Recover(list, kept); len(disk)+len(redo)+len(end) != 0 {
				t.Errorf("%s, %v: DiskAfter = %v, RedoRecs = %v, Recover = %v", recsText(list), kept, disk, redo, end)
			}
		}
	}
}

// TestWrongKept checks every function on what may not be kept of a history.
func TestWrongKept(t *testing.T) {
	for _, list := range slices.Concat([][]impl.Rec{nil, recsOf("1."), recsOf("1a05")}, walkedRecs(60)) {
		for _, kept := range wrongKept(len(list)) {
			if disk, redo, end := impl.DiskAfter(list, kept), impl.RedoRecs(list, kept), impl.Recover(list, kept); len(disk)+len(redo)+len(end) != 0 {
				t.Errorf("%s, %.100v: DiskAfter = %v, RedoRecs = %v, Recover = %v", recsText(list), kept, disk, redo, end)
			}
		}
	}
}

// TestP45HistoriesRunStepByStep runs histories record by record.
func TestP45HistoriesRunStepByStep(t *testing.T) {
	manyHistories(func(list []impl.Rec) {
		words := []int{0, 0, 0}
		for i := range len(list) + 1 {
			if i > 0 && list[i-1].Kind <= 2 {
				words[list[i-1].Place] = list[i-1].After
			}
			if got := impl.RunRecs(list[:i]); !slices.Equal(got, words) {
				t.Fatalf("RunRecs(%s) = %v, want %v", recsText(list[:i]), got, words)
			}
		}
		if want := runModel(list); !slices.Equal(words, want) {
			t.Errorf("%s: step by step %v, want %v", recsText(list), words, want)
		}
	})
}

// TestRecoveryExamples checks what the functions tell of histories written out.
func TestRecoveryExamples(t *testing.T) {
	tests := []struct {
		list, undo      string
		run, open, done []int
	}{
		{"", "", []int{0, 0, 0}, nil, []int{0, 0, 0}},
		{"1.", "", []int{0, 0, 0}, nil, []int{0, 0, 0}},
		{"1!", "", []int{0, 0, 0}, nil, []int{0, 0, 0}},
		{"4. 2! 1.", "", []int{0, 0, 0}, nil, []int{0, 0, 0}},
		{"1a05", "1<a50 1!", []int{5, 0, 0}, []int{1}, []int{0, 0, 0}},
		{"4c09", "4<c90 4!", []int{0, 0, 9}, []int{4}, []int{0, 0, 0}},
		{"3b00", "3<b00 3!", []int{0, 0, 0}, []int{3}, []int{0, 0, 0}},
		{"1a05 1.", "", []int{5, 0, 0}, nil, []int{5, 0, 0}},
		{"1a05 1<a50", "1!", []int{0, 0, 0}, []int{1}, []int{0, 0, 0}},
		{"1a05 1<a50 1!", "", []int{0, 0, 0}, nil, []int{0, 0, 0}},
		{"1a05 1a56", "1<a65 1<a50 1!", []int{6, 0, 0}, []int{1}, []int{0, 0, 0}},
		{"1a05 1a56 1<a65", "1<a50 1!", []int{5, 0, 0}, []int{1}, []int{0, 0, 0}},
		{"1a05 1a55 1<a55", "1<a50 1!", []int{5, 0, 0}, []int{1}, []int{0, 0, 0}},
		{"1a05 2.", "1<a50 1!", []int{5, 0, 0}, []int{1}, []int{0, 0, 0}},
		{"4a05 2b06 3c07", "3<c70 2<b60 4<a50 2! 3! 4!", []int{5, 6, 7}, []int{2, 3, 4}, []int{0, 0, 0}},
		{"2a05 1b06 2a57 1b68", "1<b86 2<a75 1<b60 2<a50 1! 2!", []int{7, 8, 0}, []int{1, 2}, []int{0, 0, 0}},
		{"2a05 1b06 2a57 1b68 2<a75", "1<b86 1<b60 2<a50 1! 2!", []int{5, 8, 0}, []int{1, 2}, []int{0, 0, 0}},
		{"2a05 1b06 1<b60 2a57", "2<a75 2<a50 1! 2!", []int{7, 0, 0}, []int{1, 2}, []int{0, 0, 0}},
		{"1a05 1. 2a56", "2<a65 2!", []int{6, 0, 0}, []int{2}, []int{5, 0, 0}},
		{"1a05 1. 2a56 2<a65 2!", "", []int{5, 0, 0}, nil, []int{5, 0, 0}},
		{"1a05 1. 2a56 2. 3a67 4c01", "4<c10 3<a76 3! 4!", []int{7, 0, 1}, []int{3, 4}, []int{6, 0, 0}},
		{"1a05 2b06 1a57 2.", "1<a75 1<a50 1!", []int{7, 6, 0}, []int{1}, []int{0, 6, 0}},
	}
	for _, test := range tests {
		list := recsOf(test.list)
		if got := impl.RunRecs(list); !slices.Equal(got, test.run) {
			t.Errorf("RunRecs(%s) = %v, want %v", test.list, got, test.run)
		}
		if got := impl.OpenOf(list); !slices.Equal(got, test.open) {
			t.Errorf("OpenOf(%s) = %v, want %v", test.list, got, test.open)
		}
		if got := impl.DoneState(list); !slices.Equal(got, test.done) {
			t.Errorf("DoneState(%s) = %v, want %v", test.list, got, test.done)
		}
		if got := impl.UndoRecs(list); !slices.Equal(got, recsOf(test.undo)) {
			t.Errorf("UndoRecs(%s) = %s, want %s", test.list, recsText(got), test.undo)
		}
		eachKept(len(list), func(kept []int) {
			if redo, end := impl.RedoRecs(list, kept), impl.Recover(list, kept); !slices.Equal(redo, test.run) || !slices.Equal(end, test.done) {
				t.Errorf("%s, %v: RedoRecs = %v, want %v, Recover = %v, want %v", test.list, kept, redo, test.run, end, test.done)
			}
		})
	}
}

// TestP46WhatIsOpenHasNoEnd looks for what is open, and takes it back.
func TestP46WhatIsOpenHasNoEnd(t *testing.T) {
	counts := map[int]int{}
	manyHistories(func(list []impl.Rec) {
		got := impl.OpenOf(list)
		if !slices.Equal(got, openModel(list)) {
			t.Errorf("OpenOf(%s) = %v, want %v", recsText(list), got, openModel(list))
		}
		all := behind(list, impl.UndoRecs(list)...)
		if open := impl.OpenOf(all); len(open) != 0 || len(openModel(all)) != 0 {
			t.Errorf("OpenOf(%s) = %v", recsText(all), open)
		}
		if len(all) <= 24 {
			counts[len(got)]++
		}
	})
	// No more than three are open at once, as each one has written at a place of its own.
	for n := range 4 {
		if counts[n] < 30 {
			t.Errorf("only %d times %d transactions are open", counts[n], n)
		}
	}
}

// TestP47WhatHasEndedWellIsWhatIsLeft compares it with what is left when all
// that is open is taken back.
func TestP47WhatHasEndedWellIsWhatIsLeft(t *testing.T) {
	left := 0
	manyHistories(func(list []impl.Rec) {
		got := impl.DoneState(list)
		if !slices.Equal(got, doneModel(list)) {
			t.Errorf("DoneState(%s) = %v, want %v", recsText(list), got, doneModel(list))
		}
		all := behind(list, impl.UndoRecs(list)...)
		if run := runModel(all); !slices.Equal(got, run) {
			t.Errorf("DoneState(%s) = %v, RunRecs of %s is %v", recsText(list), got, recsText(all), run)
		}
		if len(all) > 24 {
			return
		}
		if run, done := impl.RunRecs(all), impl.DoneState(all); !slices.Equal(got, run) || !slices.Equal(got, done) {
			t.Errorf("DoneState(%s) = %v, RunRecs(%s) = %v, DoneState of it %v", recsText(list), got, recsText(all), run, done)
		}
		if len(impl.OpenOf(list)) > 0 && !slices.Equal(got, impl.RunRecs(list)) && !slices.Equal(got, []int{0, 0, 0}) {
			left++
		}
	})
	if left < 50 {
		t.Errorf("only %d times something is left, and something is not", left)
	}
}

// checkKept compares the places as they are kept, and with the others done again.
func checkKept(t *testing.T, list []impl.Rec, kept []int) {
	t.Helper()
	if got, want := impl.DiskAfter(list, kept), diskModel(list, kept); !slices.Equal(got, want) {
		t.Errorf("DiskAfter(%s, %v) = %v, want %v", recsText(list), kept, got, want)
	}
	if got, want := impl.RedoRecs(list, kept), runModel(list); !slices.Equal(got, want) {
		t.Errorf("RedoRecs(%s, %v) = %v, want %v", recsText(list), kept, got, want)
	}
	if got, want := impl.Recover(list, kept), doneModel(list); !slices.Equal(got, want) {
		t.Errorf("Recover(%s, %v) = %v, want %v", recsText(list), kept, got, want)
	}
}

// TestP48PlacesThatAreAllKeptAreAsTheyRun keeps all records, and none.
func TestP48PlacesThatAreAllKeptAreAsTheyRun(t *testing.T) {
	manyHistories(func(list []impl.Rec) {
		n := len(list)
		if got, want := impl.DiskAfter(list, []int{n, n, n}), impl.RunRecs(list); len(got) != 3 || !slices.Equal(got, want) {
			t.Errorf("DiskAfter(%s) with all kept = %v, want %v", recsText(list), got, want)
		}
		if got := impl.DiskAfter(list, []int{0, 0, 0}); !slices.Equal(got, []int{0, 0, 0}) {
			t.Errorf("DiskAfter(%s) with none kept = %v", recsText(list), got)
		}
	})
}

// TestP48Examples checks places written out.
func TestP48Examples(t *testing.T) {
	list := recsOf("1a05 2b06 1a57 1<a75 2.")
	tests := []struct{ kept, want []int }{
		{[]int{0, 0, 0}, []int{0, 0, 0}},
		{[]int{1, 1, 1}, []int{5, 0, 0}},
		{[]int{2, 1, 5}, []int{5, 0, 0}},
		{[]int{2, 2, 2}, []int{5, 6, 0}},
		{[]int{0, 2, 0}, []int{0, 6, 0}},
		{[]int{3, 0, 0}, []int{7, 0, 0}},
		{[]int{4, 1, 0}, []int{5, 0, 0}},
		{[]int{5, 5, 5}, []int{5, 6, 0}},
	}
	for _, test := range tests {
		if got := impl.DiskAfter(list, test.kept); !slices.Equal(got, test.want) {
			t.Errorf("DiskAfter(%s, %v) = %v, want %v", recsText(list), test.kept, got, test.want)
		}
	}
	ends := recsOf("1a04 2c03 2. 1. 3!")
	for kept, want := range [][]int{{0, 0, 0}, {4, 0, 0}, {4, 0, 3}, {4, 0, 3}, {4, 0, 3}, {4, 0, 3}} {
		if got := impl.DiskAfter(ends, []int{kept, kept, kept}); !slices.Equal(got, want) {
			t.Errorf("DiskAfter(%s) with %d kept = %v, want %v", recsText(ends), kept, got, want)
		}
	}
	if got := impl.DiskAfter(nil, []int{0, 0, 0}); !slices.Equal(got, []int{0, 0, 0}) {
		t.Errorf("DiskAfter of no records = %v", got)
	}
}

// TestP49WhatIsDoneAgainIsAll keeps any first records at each place.
func TestP49WhatIsDoneAgainIsAll(t *testing.T) {
	next := rolls(89)
	eachHistory(2, func(list []impl.Rec) {
		eachKept(len(list), func(kept []int) { checkKept(t, list, kept) })
	})
	manyHistories(func(list []impl.Rec) {
		for _, kept := range someKept(next, len(list)) {
			checkKept(t, list, kept)
		}
	})
	for _, list := range walkedRecs(12) {
		eachKept(len(list), func(kept []int) {
			if got := impl.RedoRecs(list, kept); !slices.Equal(got, impl.RunRecs(list)) {
				t.Errorf("RedoRecs(%s, %v) = %v, want %v", recsText(list), kept, got, impl.RunRecs(list))
			}
		})
	}
}

// checkUndo takes back what is open as the document tells, and what is left of
// it when it breaks off at any record.
func checkUndo(t *testing.T, list []impl.Rec) {
	t.Helper()
	undo := impl.UndoRecs(list)
	if want := undoModel(list); !slices.Equal(undo, want) {
		t.Fatalf("UndoRecs(%s) = %s, want %s", recsText(list), recsText(undo), recsText(want))
	}
	all := behind(list, undo...)
	if !followingRecs(all) || impl.ValidRecs(all) != (len(all) <= 24) {
		t.Errorf("ValidRecs(%s) is %v", recsText(all), impl.ValidRecs(all))
	}
	for n := range len(undo) + 1 {
		if got := impl.UndoRecs(all[:len(list)+n]); !slices.Equal(got, undo[n:]) {
			t.Errorf("UndoRecs(%s) = %s, want %s", recsText(all[:len(list)+n]), recsText(got), recsText(undo[n:]))
		}
	}
}

// TestP50WhatIsTakenBackIsAHistory takes back histories, also such as are longer
// than others may be.
func TestP50WhatIsTakenBackIsAHistory(t *testing.T) {
	longer, begun := 0, 0
	manyHistories(func(list []impl.Rec) {
		checkUndo(t, list)
		if undo := impl.UndoRecs(list); len(undo) > 24 {
			longer++
		} else if slices.ContainsFunc(list, func(r impl.Rec) bool { return r.Kind == 2 }) && len(undo) > len(impl.OpenOf(list)) {
			begun++
		}
	})
	if longer < 1 || begun < 50 {
		t.Errorf("%d times there is more than 24 to take back, %d times some is taken back before", longer, begun)
	}
	for _, list := range longRecs(300) {
		checkUndo(t, list)
	}
}

// TestP50ManyRecords takes back very many writes, and none behind a wrong one.
func TestP50ManyRecords(t *testing.T) {
	var list []impl.Rec
	for i := range 100000 {
		list = append(list, impl.Rec{Kind: 1, Tx: 1 + i%2, Place: i % 2, Before: i / 2 % 10, After: (i/2 + 1) % 10})
	}
	undo := impl.UndoRecs(list)
	if len(undo) != 100002 {
		t.Fatalf("UndoRecs has %d records", len(undo))
	}
	for i, r := range slices.Backward(list) {
		if undo[len(list)-1-i] != backOf(r) {
			t.Fatalf("record %d is %s", len(list)-1-i, recText(undo[len(list)-1-i]))
		}
	}
	if !slices.Equal(undo[100000:], recsOf("1! 2!")) {
		t.Errorf("UndoRecs ends with %s", recsText(undo[100000:]))
	}
	if got := impl.UndoRecs(behind(list, undo[:99999]...)); !slices.Equal(got, undo[99999:]) {
		t.Errorf("UndoRecs behind 99999 of them = %s", recsText(got))
	}
	if got := impl.UndoRecs(behind(list, recsOf("1!")...)); len(got) != 0 {
		t.Errorf("UndoRecs behind a wrong record has %d records", len(got))
	}
}

// TestP51NothingThatWasDoneIsLost recovers histories, breaks off at any record
// that takes back, and begins anew with any records kept.
func TestP51NothingThatWasDoneIsLost(t *testing.T) {
	next := rolls(97)
	anew := 0
	check := func(list []impl.Rec) {
		want := impl.DoneState(list)
		all := behind(list, impl.UndoRecs(list)...)
		for n := len(list); n <= min(len(all), 24); n++ {
			for _, kept := range someKept(next, n) {
				if got := impl.Recover(all[:n], kept); !slices.Equal(got, want) || !slices.Equal(got, doneModel(list)) {
					t.Errorf("Recover(%s, %v) = %v, want %v", recsText(all[:n]), kept, got, want)
				}
			}
			if n > len(list) && n < len(all) {
				anew++
			}
		}
	}
	manyHistories(check)
	if anew < 1000 {
		t.Errorf("only %d times it breaks off", anew)
	}
	eachHistory(2, func(list []impl.Rec) {
		all := behind(list, impl.UndoRecs(list)...)
		for n := len(list); n <= len(all); n++ {
			eachKept(n, func(kept []int) { checkKept(t, all[:n], kept) })
		}
	})
}

// TestP51BreaksOffAgain breaks recovery off, writes some more, and so on: what
// was done stays, and nothing else comes.
func TestP51BreaksOffAgain(t *testing.T) {
	next := rolls(101)
	for _, start := range walkedRecs(400) {
		list := start[:len(start)/3]
		for len(list) < 20 {
			want := impl.DoneState(list)
			undo := impl.UndoRecs(list)
			if len(undo) == 0 {
				break
			}
			list = behind(list, undo[:min(1+next(len(undo)), 24-len(list))]...)
			kept := []int{next(len(list) + 1), next(len(list) + 1), next(len(list) + 1)}
			if got := impl.Recover(list, kept); !slices.Equal(got, want) {
				t.Errorf("Recover(%s, %v) = %v, want %v", recsText(list), kept, got, want)
			}
			if r := someRec(next, list, 1+next(4), 4); mayFollow(list, r) {
				list = behind(list, r)
			}
		}
	}
}

// TestP51Examples recovers histories written out.
func TestP51Examples(t *testing.T) {
	tests := []struct {
		list       string
		kept, want []int
	}{
		{"", []int{0, 0, 0}, []int{0, 0, 0}},
		{"1. 2!", []int{0, 1, 2}, []int{0, 0, 0}},
		{"1a05 1.", []int{0, 0, 0}, []int{5, 0, 0}},
		{"1a05", []int{1, 0, 0}, []int{0, 0, 0}},
		{"1a05 1. 2a56 2b07", []int{3, 0, 4}, []int{5, 0, 0}},
		{"1a05 1. 2a56 2b07 2<b70", []int{3, 4, 0}, []int{5, 0, 0}},
		{"1a05 1. 2a56 2b07 2<b70 2<a65", []int{3, 0, 0}, []int{5, 0, 0}},
		{"1a05 1. 2a56 2b07 2<b70 2<a65 2!", []int{0, 4, 7}, []int{5, 0, 0}},
		{"1a05 2b06 2. 1a57 3c08", []int{4, 0, 5}, []int{0, 6, 0}},
		{"1a05 2b06 2. 1a57 3c08 3. 1c89", []int{4, 0, 5}, []int{0, 6, 8}},
	}
	for _, test := range tests {
		if got := impl.Recover(recsOf(test.list), test.kept); !slices.Equal(got, test.want) {
			t.Errorf("Recover(%s, %v) = %v, want %v", test.list, test.kept, got, test.want)
		}
	}
}

// TestRecoveryIsFresh checks that results share no memory with arguments, nor
// with each other, and that arguments stay, with what is behind them.
func TestRecoveryIsFresh(t *testing.T) {
	for _, recs := range walkedRecs(200) {
		list, kept := roomy(recs), roomy([]int{len(recs) / 2, len(recs), 0})
		wasList, wasKept := slices.Clone(list[:cap(list)]), slices.Clone(kept[:cap(kept)])
		allRecs := [][]impl.Rec{list, impl.UndoRecs(list), impl.UndoRecs(list), impl.UndoRecs(list[:len(list)/2])}
		allWords := [][]int{kept, impl.RunRecs(list), impl.RunRecs(list), impl.OpenOf(list), impl.OpenOf(list), impl.DoneState(list), impl.DoneState(list)}
		for range 2 {
			allWords = append(allWords, impl.DiskAfter(list, kept), impl.RedoRecs(list, kept), impl.Recover(list, kept))
		}
		if !impl.ValidRecs(list) || !slices.Equal(list[:cap(list)], wasList) || !slices.Equal(kept[:cap(kept)], wasKept) {
			t.Fatalf("arguments are now %s and %v", recsText(list), kept)
		}
		if !listsApart(func(i int) impl.Rec { return impl.Rec{Kind: i + 10} }, allRecs...) || !listsApart(func(i int) int { return i + 100 }, allWords...) {
			t.Errorf("%s: results share memory", recsText(recs))
		}
	}
}
