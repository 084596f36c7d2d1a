package tests

import (
	"math/bits"
	"slices"
	"testing"

	"loop.example/storeofkeys/impl"
)

// fewRuns calls f with every run of four keys, each with one value.
func fewRuns(value string, f func(run []impl.Item)) {
	eachRun([]string{"a", "ab", "b", "c"}, []string{value}, f)
}

// TestP28RunsCanBeCut cuts runs, from both ends.
func TestP28RunsCanBeCut(t *testing.T) {
	check := func(run []impl.Item) {
		for from := range len(run) + 1 {
			if !impl.ValidRun(run[:from]) || !impl.ValidRun(run[from:]) {
				t.Errorf("%s: cut at %d it is no run", runText(run), from)
			}
		}
	}
	for size := range 41 {
		check(longRun(0, size, "x"))
		check(longRun(3, size, "-"))
	}
	eachRun([]string{"a", "aa", "b", "zzz"}, []string{"", "wxyz"}, check)
}

// TestP28Examples checks runs written out.
func TestP28Examples(t *testing.T) {
	for _, text := range []string{"", "a=", "a-", "zzz=zzzz", "zzz-", "a=x b-", "a- b=x", "a- b- c-", "a= aa- aaa=x aab- ab=y b="} {
		if !impl.ValidRun(runOf(text)) {
			t.Errorf("%q is no run", text)
		}
	}
	if !impl.ValidRun(nil) || !impl.ValidRun([]impl.Item{}) {
		t.Error("no items are no run")
	}
	if !impl.ValidRun(longRun(0, 40, "wxyz")) || !impl.ValidRun(longRun(0, 40, "-")) {
		t.Error("40 items are no run")
	}
	if impl.ValidRun(longRun(0, 41, "")) || impl.ValidRun(longRun(0, 41, "-")) {
		t.Error("41 items are a run")
	}
	for _, run := range wrongRuns() {
		if impl.ValidRun(run) || wholeRun(run) {
			t.Errorf("%s: ValidRun is %v", runText(run), impl.ValidRun(run))
		}
	}
}

// checkMerge merges two runs as the document tells.
func checkMerge(t *testing.T, fresh, old []impl.Item, last bool) {
	t.Helper()
	got, ok := impl.MergeRuns(fresh, old, last)
	want := newestItems(last, fresh, old)
	fine := len(want) <= 40
	if !fine {
		want = nil
	}
	if ok != fine || !slices.Equal(got, want) {
		t.Fatalf("MergeRuns(%s, %s, %v) = %s, %v, want %s, %v", runText(fresh), runText(old), last, runText(got), ok, runText(want), fine)
	}
}

// runsAsLevels returns those of some runs that have items.
func runsAsLevels(runs ...[]impl.Item) [][]impl.Item {
	return slices.DeleteFunc(runs, func(run []impl.Item) bool { return len(run) == 0 })
}

// TestP29MergedRunsAreBoth merges any two runs of a few keys, and compares their pairs.
func TestP29MergedRunsAreBoth(t *testing.T) {
	fewRuns("x", func(fresh []impl.Item) {
		fewRuns("y", func(old []impl.Item) {
			want := impl.PairsOf(runsAsLevels(fresh, old))
			for _, last := range []bool{false, true} {
				checkMerge(t, fresh, old, last)
				run, ok := impl.MergeRuns(fresh, old, last)
				if !ok || !impl.ValidRun(run) || !slices.Equal(impl.PairsOf(runsAsLevels(run)), want) {
					t.Errorf("MergeRuns(%s, %s, %v) = %s, %v", runText(fresh), runText(old), last, runText(run), ok)
				}
				if last && slices.ContainsFunc(run, func(item impl.Item) bool { return item.Gone }) {
					t.Errorf("MergeRuns(%s, %s) of the last one = %s", runText(fresh), runText(old), runText(run))
				}
			}
		})
	})
}

// TestP29LongRuns merges runs of many items.
func TestP29LongRuns(t *testing.T) {
	merged := 0
	for _, levels := range walkedLevels(600) {
		for i := 1; i < len(levels); i++ {
			for _, last := range []bool{false, true} {
				checkMerge(t, levels[i-1], levels[i], last)
				if run, ok := impl.MergeRuns(levels[i-1], levels[i], last); ok {
					merged++
					if want := impl.PairsOf(levels[i-1 : i+1]); !slices.Equal(impl.PairsOf(runsAsLevels(run)), want) {
						t.Errorf("MergeRuns(%s, %s, %v) = %s", runText(levels[i-1]), runText(levels[i]), last, runText(run))
					}
				}
			}
		}
	}
	if merged < 500 {
		t.Errorf("only %d runs are merged", merged)
	}
}

// TestP29Examples checks merged runs written out.
func TestP29Examples(t *testing.T) {
	tests := []struct{ fresh, old, all, last string }{
		{"", "", "", ""},
		{"a=x", "", "a=x", "a=x"},
		{"", "a=x", "a=x", "a=x"},
		{"a-", "", "a-", ""},
		{"", "a-", "a-", ""},
		{"a=x", "a=y", "a=x", "a=x"},
		{"a=", "a=y", "a=", "a="},
		{"a-", "a=y", "a-", ""},
		{"a=x", "a-", "a=x", "a=x"},
		{"a-", "a-", "a-", ""},
		{"a=x b-", "b=y c-", "a=x b- c-", "a=x"},
		{"b-", "a=y b=y c=y", "a=y b- c=y", "a=y c=y"},
		{"a- c-", "b=y", "a- b=y c-", "b=y"},
		{"b=x", "a- c-", "a- b=x c-", "b=x"},
		{"aa=x b=x", "a=y aaa=y ab=y", "a=y aa=x aaa=y ab=y b=x", "a=y aa=x aaa=y ab=y b=x"},
	}
	for _, test := range tests {
		fresh, old := runOf(test.fresh), runOf(test.old)
		if got, ok := impl.MergeRuns(fresh, old, false); !ok || runText(got) != test.all {
			t.Errorf("MergeRuns(%s, %s) = %s, %v", test.fresh, test.old, runText(got), ok)
		}
		if got, ok := impl.MergeRuns(fresh, old, true); !ok || runText(got) != test.last {
			t.Errorf("MergeRuns(%s, %s) of the last one = %s, %v", test.fresh, test.old, runText(got), ok)
		}
	}
}

// TestP29MostItems merges runs that have 40 items together, and others that have more.
func TestP29MostItems(t *testing.T) {
	tests := []struct {
		fresh, old []impl.Item
		last, ok   bool
	}{
		{longRun(0, 20, "x"), longRun(20, 20, "y"), false, true},
		{longRun(0, 20, "x"), longRun(20, 20, "y"), true, true},
		{longRun(0, 20, "x"), longRun(20, 21, "y"), false, false},
		{longRun(0, 20, "x"), longRun(20, 21, "y"), true, false},
		{longRun(0, 21, "x"), longRun(20, 20, "y"), false, true},
		{longRun(0, 40, "x"), longRun(0, 40, "y"), false, true},
		{longRun(0, 40, "x"), nil, false, true},
		{nil, longRun(0, 40, "x"), true, true},
		{longRun(0, 40, "x"), longRun(40, 1, "y"), true, false},
		{longRun(0, 40, "x"), longRun(40, 1, "-"), true, true},
		{longRun(0, 40, "x"), longRun(40, 1, "-"), false, false},
		{longRun(40, 40, "x"), longRun(0, 40, "y"), false, false},
		{longRun(0, 40, "-"), longRun(40, 40, "y"), true, true},
		{longRun(0, 40, "-"), longRun(40, 40, "y"), false, false},
		{longRun(0, 40, "-"), longRun(40, 40, "-"), true, true},
		{longRun(0, 40, "-"), longRun(40, 40, "-"), false, false},
	}
	for i, test := range tests {
		checkMerge(t, test.fresh, test.old, test.last)
		if _, ok := impl.MergeRuns(test.fresh, test.old, test.last); ok != test.ok {
			t.Errorf("test %d: MergeRuns is %v", i, ok)
		}
	}
}

// TestP29WrongRuns merges no items that are no run.
func TestP29WrongRuns(t *testing.T) {
	for _, wrong := range wrongRuns() {
		for _, other := range [][]impl.Item{nil, runOf("a=x b-"), longRun(0, 40, "-"), wrong} {
			for _, last := range []bool{false, true} {
				if got, ok := impl.MergeRuns(wrong, other, last); ok || len(got) != 0 {
					t.Errorf("MergeRuns(%s, %s, %v) = %s, %v", runText(wrong), runText(other), last, runText(got), ok)
				}
				if got, ok := impl.MergeRuns(other, wrong, last); ok || len(got) != 0 {
					t.Errorf("MergeRuns(%s, %s, %v) = %s, %v", runText(other), runText(wrong), last, runText(got), ok)
				}
			}
		}
	}
}

// TestP30KeysHaveOneBitOrTwo checks the marks of every key.
func TestP30KeysHaveOneBitOrTwo(t *testing.T) {
	seen := 0
	eachKey(func(key string) {
		got := impl.MarksOf(key)
		if got != marksModel(key) {
			t.Errorf("MarksOf(%q) = %b, want %b", key, got, marksModel(key))
		}
		if count := bits.OnesCount64(uint64(got)); count < 1 || count > 2 || got >= 1<<24 {
			t.Errorf("MarksOf(%q) = %b", key, got)
		}
		seen |= got
	})
	if seen != 1<<24-1 {
		t.Errorf("the marks of all keys are %b", seen)
	}
}

// TestP30Examples checks marks that are counted by hand.
func TestP30Examples(t *testing.T) {
	tests := []struct {
		key  string
		bits [2]int
	}{
		{"a", [2]int{8, 16}},
		{"b", [2]int{9, 17}},
		{"i", [2]int{16, 0}},
		{"y", [2]int{8, 16}},
		{"z", [2]int{9, 17}},
		{"ab", [2]int{10, 18}},
		{"zz", [2]int{12, 4}},
		{"abc", [2]int{19, 7}},
		{"zzz", [2]int{18, 6}},
	}
	for _, test := range tests {
		if got := impl.MarksOf(test.key); got != 1<<test.bits[0]|1<<test.bits[1] {
			t.Errorf("MarksOf(%q) = %b", test.key, got)
		}
	}
	for _, key := range notKeys {
		if got := impl.MarksOf(key); got != -1 {
			t.Errorf("MarksOf(%q) = %d", key, got)
		}
	}
}

// TestP31SievesHaveAllKeys checks the sieves of many runs.
func TestP31SievesHaveAllKeys(t *testing.T) {
	check := func(run []impl.Item) {
		sieve := impl.SieveOf(run)
		if sieve != sieveModel(run) {
			t.Errorf("SieveOf(%s) = %b, want %b", runText(run), sieve, sieveModel(run))
		}
		for _, item := range run {
			if marks := impl.MarksOf(item.Key); sieve&marks != marks {
				t.Errorf("SieveOf(%s) = %b, without %s", runText(run), sieve, item.Key)
			}
		}
	}
	fewRuns("x", check)
	for _, levels := range walkedLevels(200) {
		for _, run := range levels {
			check(run)
		}
	}
}

// TestP31Examples checks sieves written out.
func TestP31Examples(t *testing.T) {
	tests := []struct {
		text string
		want int
	}{
		{"", 0},
		{"a=", 1<<8 | 1<<16},
		{"a-", 1<<8 | 1<<16},
		{"a=x y=x", 1<<8 | 1<<16},
		{"a= b-", 1<<8 | 1<<16 | 1<<9 | 1<<17},
		{"a= i=", 1<<8 | 1<<16 | 1<<0},
		{"abc- zz=", 1<<19 | 1<<7 | 1<<12 | 1<<4},
	}
	for _, test := range tests {
		if got := impl.SieveOf(runOf(test.text)); got != test.want {
			t.Errorf("SieveOf(%s) = %b, want %b", test.text, got, test.want)
		}
	}
	for _, run := range wrongRuns() {
		if got := impl.SieveOf(run); got != -1 {
			t.Errorf("SieveOf(%s) = %d", runText(run), got)
		}
	}
}

// TestP32KeysAreFoundByFewLooks looks for each key, and one in each gap, in runs of any size.
func TestP32KeysAreFoundByFewLooks(t *testing.T) {
	for size := range 41 {
		for _, value := range []string{"x", "-"} {
			run := longRun(0, size, value)
			for _, key := range append(keysNear([][]impl.Item{longRun(0, 42, "x")}), "bzz") {
				at, looks := impl.FindRun(run, key)
				wantAt, wantLooks := findModel(run, key)
				if at != wantAt || looks != wantLooks {
					t.Errorf("FindRun of %d items (%q) = %d, %d, want %d, %d", size, key, at, looks, wantAt, wantLooks)
				}
				if looks > bits.Len(uint(size)) {
					t.Errorf("FindRun of %d items (%q) takes %d looks", size, key, looks)
				}
				if index := slices.IndexFunc(run, func(item impl.Item) bool { return item.Key == key }); at != index {
					t.Errorf("FindRun of %d items (%q) = %d, want %d", size, key, at, index)
				}
			}
		}
	}
}

// TestP32Examples checks looks written out.
func TestP32Examples(t *testing.T) {
	tests := []struct {
		text, key string
		at, looks int
	}{
		{"", "a", -1, 0},
		{"b=", "b", 0, 1},
		{"b-", "b", 0, 1},
		{"b=", "a", -1, 1},
		{"b=", "c", -1, 1},
		{"a= b=", "a", 0, 2},
		{"a= b=", "b", 1, 1},
		{"a= b=", "c", -1, 1},
		{"b= c=", "a", -1, 2},
		{"a= b= c=", "b", 1, 1},
		{"a= b= c=", "a", 0, 2},
		{"a= b= c=", "c", 2, 2},
		{"a- b= c- d=", "c", 2, 1},
		{"a- b= c- d=", "b", 1, 2},
		{"a- b= c- d=", "a", 0, 3},
		{"a- b= c- d=", "d", 3, 2},
		{"a- b= c- d=", "aa", -1, 3},
		{"a- b= c- d=", "bb", -1, 2},
		{"a- b= c- d=", "cc", -1, 2},
	}
	for _, test := range tests {
		if at, looks := impl.FindRun(runOf(test.text), test.key); at != test.at || looks != test.looks {
			t.Errorf("FindRun(%s, %q) = %d, %d, want %d, %d", test.text, test.key, at, looks, test.at, test.looks)
		}
	}
	for _, key := range notKeys {
		for _, text := range []string{"", "a=", "a= b- c="} {
			if at, looks := impl.FindRun(runOf(text), key); at != -1 || looks != -1 {
				t.Errorf("FindRun(%s, %q) = %d, %d", text, key, at, looks)
			}
		}
	}
	for _, run := range wrongRuns() {
		for _, key := range []string{"a", "b", "zz", ""} {
			if at, looks := impl.FindRun(run, key); at != -1 || looks != -1 {
				t.Errorf("FindRun(%s, %q) = %d, %d", runText(run), key, at, looks)
			}
		}
	}
}

// TestP33LevelsCanBeLeftOut leaves out levels from the first one on.
func TestP33LevelsCanBeLeftOut(t *testing.T) {
	manyLevels(func(levels [][]impl.Item) {
		for from := range len(levels) + 1 {
			if !impl.ValidLevels(levels[from:]) || !impl.ValidLevels(levels[:from]) {
				t.Errorf("%s: cut at %d they are no levels", levelsText(levels), from)
			}
		}
	})
	full := slices.Repeat([][]impl.Item{longRun(0, 40, "x")}, 6)
	if !impl.ValidLevels(full) || !impl.ValidLevels(full[1:]) || !impl.ValidLevels(nil) || !impl.ValidLevels([][]impl.Item{}) {
		t.Error("six runs, five of them, or none are no levels")
	}
}

// TestWrongLevels checks every function on runs that are no levels.
func TestWrongLevels(t *testing.T) {
	for _, levels := range wrongLevels() {
		if impl.ValidLevels(levels) || wholeLevels(levels) {
			t.Errorf("%.200s: ValidLevels is %v", levelsText(levels), impl.ValidLevels(levels))
		}
		if got := impl.PairsOf(levels); len(got) != 0 {
			t.Errorf("%.200s: PairsOf = %s", levelsText(levels), pairText(got))
		}
		for _, key := range []string{"a", "b", "c", "y", "zzz", ""} {
			if got, looks, ok := impl.GetLevels(levels, key); ok || got != "" || looks != -1 {
				t.Errorf("%.200s: GetLevels(%q) = %q, %d, %v", levelsText(levels), key, got, looks, ok)
			}
		}
		for _, run := range [][]impl.Item{nil, runOf("a-"), runOf("a= b= c="), longRun(0, 40, "x")} {
			if got, ok := impl.PushRun(levels, run); ok || len(got) != 0 {
				t.Errorf("%.200s: PushRun(%s) = %.200s, %v", levelsText(levels), runText(run), levelsText(got), ok)
			}
		}
	}
}

// TestP34LevelsAreReadAsPairs gets each key, and others, from many levels.
func TestP34LevelsAreReadAsPairs(t *testing.T) {
	passed, inVain := 0, 0
	manyLevels(func(levels [][]impl.Item) {
		values := map[string]string{}
		for _, p := range impl.PairsOf(levels) {
			values[p.Key] = p.Value
		}
		for _, key := range keysNear(levels) {
			got, looks, ok := impl.GetLevels(levels, key)
			value, there := values[key]
			if ok != there || got != value {
				t.Errorf("%s: GetLevels(%q) = %q, %v, want %q, %v", levelsText(levels), key, got, ok, value, there)
			}
			if _, want, _ := getModel(levels, key); looks != want {
				t.Errorf("%s: GetLevels(%q) takes %d looks, want %d", levelsText(levels), key, looks, want)
			}
			all, found := 0, false
			for _, run := range levels {
				at, n := impl.FindRun(run, key)
				all += n
				found = found || at >= 0
			}
			if looks > all {
				t.Errorf("%s: GetLevels(%q) takes %d looks of %d", levelsText(levels), key, looks, all)
			}
			if !found && looks == 0 && all > 0 {
				passed++
			}
			if !found && looks > 0 {
				inVain++
			}
		}
	})
	if passed < 1000 || inVain < 1000 {
		t.Errorf("%d keys are passed over, %d looked for in vain", passed, inVain)
	}
}

// TestP34Examples checks values and looks written out. The marks of y are those
// of a, and the marks of z those of b; i has one mark with a.
func TestP34Examples(t *testing.T) {
	tests := []struct {
		levels, key, want string
		looks             int
		ok                bool
	}{
		{"", "a", "", 0, false},
		{"a=x", "a", "x", 1, true},
		{"a=", "a", "", 1, true},
		{"a-", "a", "", 1, false},
		{"a=x", "b", "", 0, false},
		{"a=x", "i", "", 0, false},
		{"a=x", "y", "", 1, false},
		{"a=x | a=w", "a", "x", 1, true},
		{"a= | a=w", "a", "", 1, true},
		{"a- | a=w", "a", "", 1, false},
		{"a=x | a-", "a", "x", 1, true},
		{"b=x | a=w", "a", "w", 1, true},
		{"y=x | a=w", "a", "w", 2, true},
		{"y=x | a-", "a", "", 2, false},
		{"a=x b- | b=y c-", "a", "x", 2, true},
		{"a=x b- | b=y c-", "b", "", 1, false},
		{"a=x b- | b=y c-", "c", "", 1, false},
		{"a=x b- | b=y c-", "d", "", 0, false},
		{"a=x b- | b=y c-", "y", "", 1, false},
		{"a=x b- | b=y c-", "z", "", 2, false},
		{"a= | b= | c= | d= | e= | f=x", "f", "x", 1, true},
		{"a= | y= | a= | y= | a= | y=x", "y", "", 2, true},
		{"y- | y- | y- | y- | y- | a=x", "a", "x", 6, true},
	}
	for _, test := range tests {
		got, looks, ok := impl.GetLevels(levelsOf(test.levels), test.key)
		if got != test.want || looks != test.looks || ok != test.ok {
			t.Errorf("%s: GetLevels(%q) = %q, %d, %v", test.levels, test.key, got, looks, ok)
		}
	}
	for _, text := range []string{"", "a=", "a=x b- | b=y c-"} {
		for _, key := range notKeys {
			if got, looks, ok := impl.GetLevels(levelsOf(text), key); got != "" || looks != -1 || ok {
				t.Errorf("%s: GetLevels(%q) = %q, %d, %v", text, key, got, looks, ok)
			}
		}
	}
}

// TestPairsOf compares the pairs of many levels with those behind the changes of
// all runs, the last run first.
func TestPairsOf(t *testing.T) {
	manyLevels(func(levels [][]impl.Item) {
		if got, want := impl.PairsOf(levels), newestPairs(levels...); !slices.Equal(got, want) {
			t.Errorf("%s: PairsOf = %s, want %s", levelsText(levels), pairText(got), pairText(want))
		}
	})
	var levels [][]impl.Item
	for i := range 6 {
		levels = append(levels, longRun(200-40*i, 40, "x"))
	}
	if got := impl.PairsOf(levels); len(got) != 240 || !slices.Equal(got, newestPairs(levels...)) {
		t.Errorf("PairsOf six long runs = %s", pairText(got))
	}
}

// TestPairsOfExamples checks pairs of levels written out.
func TestPairsOfExamples(t *testing.T) {
	tests := []struct{ levels, want string }{
		{"", ""},
		{"a-", ""},
		{"a=", "a="},
		{"a=x b- c=y", "a=x c=y"},
		{"a=x b- | b=y c-", "a=x"},
		{"b=y c- | c=z d=w", "b=y d=w"},
		{"c=x | b=x | a=x", "a=x b=x c=x"},
		{"a=x | a-", "a=x"},
		{"a- | a=x", ""},
		{"a- | a=x | a=y", ""},
		{"a=x | a- | a=y", "a=x"},
		{"a=x | b=x | a=y b-", "a=x b=x"},
		{"b- | a=x b=x c=x | b=y d=", "a=x c=x d="},
		{"a= | aa= | aaa= | ab= | b= | zzz=", "a= aa= aaa= ab= b= zzz="},
	}
	for _, test := range tests {
		if got := pairText(impl.PairsOf(levelsOf(test.levels))); got != test.want {
			t.Errorf("%s: PairsOf = %s, want %s", test.levels, got, test.want)
		}
	}
}

// checkPush pushes a run as the document tells.
func checkPush(t *testing.T, levels [][]impl.Item, run []impl.Item) ([][]impl.Item, bool) {
	t.Helper()
	got, ok := impl.PushRun(levels, run)
	want, fine := pushModel(levels, run)
	if ok != fine || !sameLevels(got, want) {
		t.Fatalf("%s: PushRun(%s) = %s, %v, want %s, %v", levelsText(levels), runText(run), levelsText(got), ok, levelsText(want), fine)
	}
	if !ok {
		return got, ok
	}
	all := append([][]impl.Item{run}, levels...)
	if !impl.ValidLevels(got) || !slices.Equal(impl.PairsOf(got), newestPairs(all...)) {
		t.Errorf("%s: PushRun(%s) = %s", levelsText(levels), runText(run), levelsText(got))
	}
	if len(run) > 0 && len(got) > 1 && 2*len(got[0]) > len(got[1]) {
		t.Errorf("%s: PushRun(%s) has %d items ahead of %d", levelsText(levels), runText(run), len(got[0]), len(got[1]))
	}
	return got, ok
}

// TestP36RunsThatArePushedChangeNothingOlder pushes runs of few keys on many levels.
func TestP36RunsThatArePushedChangeNothingOlder(t *testing.T) {
	var runs [][]impl.Item
	eachRun([]string{"a", "b", "y"}, []string{"new"}, func(run []impl.Item) {
		runs = append(runs, run)
	})
	manyLevels(func(levels [][]impl.Item) {
		for _, run := range runs {
			checkPush(t, levels, run)
		}
	})
}

// TestP36LongRuns pushes the first run of levels on the others.
func TestP36LongRuns(t *testing.T) {
	pushed, lengths := 0, map[int]int{}
	for _, levels := range walkedLevels(4000) {
		if len(levels) == 0 {
			continue
		}
		if got, ok := checkPush(t, levels[1:], levels[0]); ok {
			pushed++
			lengths[len(levels)-len(got)]++
		}
	}
	if pushed < 1000 || lengths[0] < 100 || lengths[1] < 100 || lengths[2] < 100 || lengths[3] < 100 {
		t.Errorf("%d runs are pushed: %v", pushed, lengths)
	}
}

// TestP36RunAfterRun pushes runs one after the other, from no levels on.
func TestP36RunAfterRun(t *testing.T) {
	seed := uint32(59)
	next := func(n int) int {
		seed = seed*1664525 + 1013904223
		return int(seed>>16) % n
	}
	var levels [][]impl.Item
	seen := map[int]int{}
	for step := range 3000 {
		got, ok := checkPush(t, levels, someRun(next, next(6), 25+step/100))
		if !ok {
			got = nil
		}
		levels = got
		seen[len(levels)]++
	}
	if seen[1] < 100 || seen[2] < 100 || seen[3] < 100 {
		t.Errorf("too few levels: %v", seen)
	}
}

// TestP36Examples checks pushed runs written out.
func TestP36Examples(t *testing.T) {
	tests := []struct{ levels, run, want string }{
		{"", "", ""},
		{"", "a=x", "a=x"},
		{"", "a-", ""},
		{"", "a- b=x c-", "b=x"},
		{"a=x", "", "a=x"},
		{"a-", "", "a-"},
		{"a=x | b- | a-", "", "a=x | b- | a-"},
		{"a=x", "a-", ""},
		{"a=x", "b-", "a=x"},
		{"a=x", "a=y", "a=y"},
		{"a=x", "b=y", "a=x b=y"},
		{"a-", "b-", ""},
		{"a=x b=y", "a-", "a- | a=x b=y"},
		{"a=x b=y", "a- b-", ""},
		{"a=x b=y c=z", "a-", "a- | a=x b=y c=z"},
		{"a=x b=y c=z", "d= e=", "a=x b=y c=z d= e="},
		{"a= b= c= d=", "x= y=", "x= y= | a= b= c= d="},
		{"a= b= c= d=", "x= y= z=", "a= b= c= d= x= y= z="},
		{"a= b- c- d=", "x= y-", "x= y- | a= b- c- d="},
		{"a= b- c- d=", "x= y- z-", "a= d= x="},
		{"a=x b=y | c= d=", "a- c-", "b=y d="},
		{"a=x b=y | c= d= e= f= g= h=", "a- c-", "a- b=y c- | c= d= e= f= g= h="},
		{"a=x b=y | c= d= e= f= g=", "a- c-", "b=y d= e= f= g="},
		{"a= | b= c= | d= e= f= g=", "z=", "a= b= c= d= e= f= g= z="},
		{"a= | b= c= | d= e= f= g= h= i= j= k=", "z=", "a= b= c= z= | d= e= f= g= h= i= j= k="},
		{"a- | b= c- d= e- | d= | f-", "z-", "a- z- | b= c- d= e- | d= | f-"},
		{"a- | b= c- d- | d= | f-", "z-", "b="},
		{"a= | a= b= | c= | d= | e= | f=", "a=x", "a=x | a= b= | c= | d= | e= | f="},
		{"a= b= | c= | d= | e= | f= | g=", "", "a= b= | c= | d= | e= | f= | g="},
	}
	for _, test := range tests {
		got, ok := impl.PushRun(levelsOf(test.levels), runOf(test.run))
		if !ok || levelsText(got) != test.want {
			t.Errorf("%s: PushRun(%s) = %s, %v, want %s", test.levels, test.run, levelsText(got), ok, test.want)
		}
	}
}

// TestP36MostLevels pushes runs on as many levels as there may be.
func TestP36MostLevels(t *testing.T) {
	six := levelsOf("a= b= | c= d= | e= f= | g= h= | i= j= | k= l=")
	for _, text := range []string{"a=", "a-", "z-"} {
		if got, ok := checkPush(t, six, runOf(text)); ok || len(got) != 0 {
			t.Errorf("PushRun(%s) on six levels = %s, %v", text, levelsText(got), ok)
		}
		if got, ok := checkPush(t, six[1:], runOf(text)); !ok || len(got) != 6 {
			t.Errorf("PushRun(%s) on five levels = %s, %v", text, levelsText(got), ok)
		}
	}
	if got, ok := checkPush(t, six, runOf("a- b-")); !ok || len(got) != 1 {
		t.Errorf("PushRun on six levels = %s, %v", levelsText(got), ok)
	}
	six[1] = longRun(0, 40, "x")
	if got, ok := checkPush(t, six, runOf("a- b-")); !ok || len(got) != 6 {
		t.Errorf("PushRun on six levels = %s, %v", levelsText(got), ok)
	}
}

// TestP36MostItems pushes runs that are merged to as many items as there may be, and to more.
func TestP36MostItems(t *testing.T) {
	full := longRun(0, 40, "x")
	tests := []struct {
		levels [][]impl.Item
		run    []impl.Item
		sizes  []int
		ok     bool
	}{
		{nil, full, []int{40}, true},
		{[][]impl.Item{full}, longRun(40, 20, "y"), []int{20, 40}, true},
		{[][]impl.Item{full}, longRun(40, 21, "y"), nil, false},
		{[][]impl.Item{full}, longRun(19, 21, "y"), []int{40}, true},
		{[][]impl.Item{full}, longRun(20, 21, "y"), nil, false},
		{[][]impl.Item{full}, longRun(19, 21, "-"), []int{19}, true},
		{[][]impl.Item{full}, longRun(40, 21, "-"), []int{40}, true},
		{[][]impl.Item{full}, full, []int{40}, true},
		{[][]impl.Item{full}, longRun(0, 40, "-"), nil, true},
		{[][]impl.Item{longRun(0, 19, "x")}, longRun(30, 21, "y"), []int{40}, true},
		{[][]impl.Item{longRun(0, 20, "x")}, longRun(30, 21, "y"), nil, false},
		{[][]impl.Item{full, full}, longRun(30, 30, "-"), []int{30}, true},
		{[][]impl.Item{full, full}, longRun(30, 30, "y"), nil, false},
		{[][]impl.Item{full, longRun(40, 40, "x")}, longRun(40, 40, "-"), []int{40}, true},
		{[][]impl.Item{longRun(40, 40, "-"), longRun(80, 40, "-"), full, longRun(120, 40, "-")}, longRun(0, 21, "-"), []int{19}, true},
		{[][]impl.Item{longRun(40, 40, "-"), longRun(80, 40, "-"), longRun(120, 40, "-"), longRun(0, 1, "x")}, longRun(0, 21, "-"), nil, true},
		{[][]impl.Item{longRun(40, 1, "-"), longRun(80, 40, "x")}, full, nil, false},
	}
	for i, test := range tests {
		got, ok := checkPush(t, test.levels, test.run)
		var sizes []int
		for _, run := range got {
			sizes = append(sizes, len(run))
		}
		if ok != test.ok || !slices.Equal(sizes, test.sizes) {
			t.Errorf("test %d: PushRun has %v, %v", i, sizes, ok)
		}
	}
}

// TestP36WrongRuns pushes no items that are no run.
func TestP36WrongRuns(t *testing.T) {
	for _, run := range wrongRuns() {
		for _, text := range []string{"", "a=", "a=x b- c= | b= y-"} {
			if got, ok := impl.PushRun(levelsOf(text), run); ok || len(got) != 0 {
				t.Errorf("%s: PushRun(%s) = %s, %v", text, runText(run), levelsText(got), ok)
			}
		}
	}
}

// roomy returns a list with room behind it.
func roomy[T any](list []T) []T {
	return append(make([]T, 0, 2*len(list)+5), list...)
}

// TestRunsAreFresh checks that results share no memory with arguments, nor within, and that these stay.
func TestRunsAreFresh(t *testing.T) {
	check := func(levels [][]impl.Item) {
		if len(levels) == 0 {
			return
		}
		run, behind := roomy(levels[0]), make([][]impl.Item, 0, 12)
		for _, level := range levels[1:] {
			behind = append(behind, roomy(level))
		}
		kept := copyLevels(behind)
		runs := slices.Concat([][]impl.Item{run}, behind)
		for _, pushed := range [][]impl.Item{run, nil} {
			got, _ := impl.PushRun(behind, pushed)
			runs = append(runs, got...)
			outer := got[:cap(got)]
			for i := range outer {
				outer[i] = nil
			}
		}
		for _, level := range kept {
			got, _ := impl.MergeRuns(run, level, len(runs)%2 == 0)
			runs = append(runs, got)
		}
		none, _ := impl.MergeRuns(run, nil, false)
		same, _ := impl.MergeRuns(nil, run, false)
		runs = append(runs, none, same)
		impl.PairsOf(behind)
		impl.GetLevels(behind, "a")
		if !slices.Equal(run, levels[0]) || !sameLevels(behind, kept) {
			t.Fatalf("%s | %s is now %s | %s", runText(levels[0]), levelsText(kept), runText(run), levelsText(behind))
		}
		spare := append(slices.Clone(behind), run)
		for _, level := range spare {
			if slices.ContainsFunc(level[len(level):cap(level)], func(item impl.Item) bool { return item != impl.Item{} }) {
				t.Errorf("%s: something is written behind %s", levelsText(levels), runText(level))
			}
		}
		if slices.ContainsFunc(behind[len(behind):cap(behind)], func(level []impl.Item) bool { return level != nil }) {
			t.Errorf("%s: something is written behind the levels", levelsText(levels))
		}
		if !runsApart(runs...) {
			t.Errorf("%s: results share memory", levelsText(levels))
		}
	}
	manyLevels(check)
}
