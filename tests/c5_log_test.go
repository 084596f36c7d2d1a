package tests

import (
	"slices"
	"strconv"
	"strings"
	"testing"

	"loop.example/storeofkeys/impl"
)

// TestP23PutTreeIsAChange puts each key, there or not, into all trees, and
// compares the pairs with those behind the change.
func TestP23PutTreeIsAChange(t *testing.T) {
	manyTrees(func(tree impl.Node) {
		list := impl.ListTree(tree)
		for i, key := range keysBetween() {
			value := [2]string{"", "new"}[i/2%2]
			got, ok := impl.PutTree(tree, key, value)
			want, fine := impl.ApplyOps(list, []impl.Op{{Key: key, Value: value}})
			if ok != fine || ok && !impl.ValidTree(got) || !slices.Equal(impl.ListTree(got), want) {
				t.Errorf("%s: PutTree(%q, %q) = %s, %v, want %s, %v", shapeOf(tree), key, value, pairText(impl.ListTree(got)), ok, pairText(want), fine)
			}
		}
	})
}

// TestP24DropTreeIsAChange drops each key, there or not, from all trees, and
// compares the pairs with those behind the change.
func TestP24DropTreeIsAChange(t *testing.T) {
	manyTrees(func(tree impl.Node) {
		list := impl.ListTree(tree)
		for _, key := range keysBetween() {
			want, fine := impl.ApplyOps(list, []impl.Op{{Key: key, Gone: true}})
			if !fine {
				t.Fatalf("%s: no change drops %q", shapeOf(tree), key)
			}
			got, ok := impl.DropTree(tree, key)
			if _, there := impl.GetTree(tree, key); ok != there {
				t.Errorf("%s: DropTree(%q) is %v", shapeOf(tree), key, ok)
			}
			if !ok {
				if !slices.Equal(want, list) {
					t.Errorf("%s: dropping %q, which is not there, leaves %s", shapeOf(tree), key, pairText(want))
				}
				continue
			}
			if !impl.ValidTree(got) || !slices.Equal(impl.ListTree(got), want) {
				t.Errorf("%s: DropTree(%q) = %s, want %s", shapeOf(tree), key, pairText(impl.ListTree(got)), pairText(want))
			}
		}
	})
}

// behindRuns returns the pairs behind the changes of runs, the last run first,
// and whether there are never too many.
func behindRuns(levels [][]impl.Item) ([]impl.Pair, bool) {
	var list []impl.Pair
	for _, run := range slices.Backward(levels) {
		behind, ok := impl.ApplyOps(list, opsOfRun(run))
		if !ok {
			return nil, false
		}
		list = behind
	}
	return list, true
}

// TestP35PairsAreThoseBehindAllRuns compares the pairs of many levels with those
// behind the changes of all runs.
func TestP35PairsAreThoseBehindAllRuns(t *testing.T) {
	long := 0
	manyLevels(func(levels [][]impl.Item) {
		want, ok := behindRuns(levels)
		if !ok {
			return
		}
		if got := impl.PairsOf(levels); !slices.Equal(got, want) {
			t.Errorf("%s: PairsOf = %s, want %s", levelsText(levels), pairText(got), pairText(want))
		}
		if len(want) > 5 && len(levels) > 1 {
			long++
		}
	})
	if long < 100 {
		t.Errorf("only %d levels are long", long)
	}
}

// TestP37ChangesCanBeCut cuts changes, from both ends.
func TestP37ChangesCanBeCut(t *testing.T) {
	for _, ops := range slices.Concat(fewOps(), walkedOps(200)) {
		for at := range len(ops) + 1 {
			if !impl.ValidOps(ops[:at]) || !impl.ValidOps(ops[at:]) {
				t.Errorf("%s: cut at %d they are not valid", opsText(ops), at)
			}
		}
	}
}

// TestP37Examples checks changes written out.
func TestP37Examples(t *testing.T) {
	for _, text := range []string{"", "a=", "a-", "a=x", "zzz=zzzz", "zzz-", "a= a=", "a- a-", "b= a=", "b=x a- b=y a= b-"} {
		if !impl.ValidOps(opsOf(text)) || !wholeOps(opsOf(text)) {
			t.Errorf("%q is not valid", text)
		}
	}
	if !impl.ValidOps(nil) || !impl.ValidOps([]impl.Op{}) {
		t.Error("no changes are not valid")
	}
	for _, text := range []string{"a=", "a-", "abc=wxyz"} {
		if !impl.ValidOps(slices.Repeat(opsOf(text), 48)) || impl.ValidOps(slices.Repeat(opsOf(text), 49)) {
			t.Errorf("%q is valid 48 times: %v, 49 times: %v", text, impl.ValidOps(slices.Repeat(opsOf(text), 48)), impl.ValidOps(slices.Repeat(opsOf(text), 49)))
		}
	}
}

// TestWrongOps checks every function on changes that are not valid.
func TestWrongOps(t *testing.T) {
	for _, ops := range wrongOps() {
		if impl.ValidOps(ops) || wholeOps(ops) {
			t.Errorf("%.200s: ValidOps is %v", opsText(ops), impl.ValidOps(ops))
		}
		if got := impl.LogText(ops); got != "" {
			t.Errorf("%.200s: LogText = %q", opsText(ops), got)
		}
		if got := impl.ShortOps(ops); len(got) != 0 {
			t.Errorf("%.200s: ShortOps = %s", opsText(ops), opsText(got))
		}
		for _, list := range [][]impl.Pair{nil, pairList("a=x b="), rising(24)} {
			if got, ok := impl.ApplyOps(list, ops); ok || len(got) != 0 {
				t.Errorf("%.200s: ApplyOps(%s) = %s, %v", opsText(ops), pairText(list), pairText(got), ok)
			}
		}
	}
}

// checkApply does changes to pairs as the document tells, step by step, by the
// short changes, and twice. It tells whether there are too many at some step.
func checkApply(t *testing.T, list []impl.Pair, ops []impl.Op) bool {
	t.Helper()
	got, ok := impl.ApplyOps(list, ops)
	want := behindOps(list, ops)
	fine := len(want) <= 24
	if !fine {
		want = nil
	}
	if ok != fine || !slices.Equal(got, want) {
		t.Fatalf("ApplyOps(%s, %s) = %s, %v, want %s, %v", pairText(list), opsText(ops), pairText(got), ok, pairText(want), fine)
	}
	if short, same := impl.ApplyOps(list, impl.ShortOps(ops)); same != ok || !slices.Equal(short, got) {
		t.Errorf("ApplyOps(%s, %s) = %s by the short changes", pairText(list), opsText(ops), pairText(short))
	}
	if !ok {
		return true
	}
	if twice, same := impl.ApplyOps(got, ops); !impl.ValidPairs(got) || !same || !slices.Equal(twice, got) {
		t.Errorf("ApplyOps(%s, %s) = %s, and twice %s", pairText(list), opsText(ops), pairText(got), pairText(twice))
	}
	step := list
	for i := range ops {
		behind, there := impl.ApplyOps(step, ops[i:i+1])
		if !there {
			return true
		}
		step = behind
	}
	if !slices.Equal(step, got) {
		t.Errorf("ApplyOps(%s, %s) = %s, and step by step %s", pairText(list), opsText(ops), pairText(got), pairText(step))
	}
	return false
}

// TestP38ChangesAreDoneOneAfterTheOther does few changes to few pairs, and many to many.
func TestP38ChangesAreDoneOneAfterTheOther(t *testing.T) {
	for _, ops := range fewOps() {
		for _, list := range fewStores("a", "ab", "b") {
			checkApply(t, list, ops)
		}
		checkApply(t, rising(24), ops)
		checkApply(t, rising(22), ops)
	}
	stores := walkedStores(60)
	tooMany := 0
	for i, ops := range walkedOps(600) {
		for j := range 6 {
			if checkApply(t, stores[(i+10*j)%len(stores)], ops) {
				tooMany++
			}
		}
	}
	if tooMany < 100 {
		t.Errorf("only %d times there are too many pairs", tooMany)
	}
}

// TestP38Examples checks pairs behind changes written out.
func TestP38Examples(t *testing.T) {
	tests := []struct{ list, ops, want string }{
		{"", "", ""},
		{"a=x b=", "", "a=x b="},
		{"", "a=", "a="},
		{"", "a-", ""},
		{"a=x", "a-", ""},
		{"a=x", "a=", "a="},
		{"a=", "a=x", "a=x"},
		{"a=", "a-", ""},
		{"a=x", "b-", "a=x"},
		{"b=", "a=x", "a=x b="},
		{"a=x", "aa=y", "a=x aa=y"},
		{"aa=y b=z", "ab= a=x c=", "a=x aa=y ab= b=z c="},
		{"a=x b=y", "b- c=z a=w d-", "a=w c=z"},
		{"", "a=x a=y", "a=y"},
		{"", "a=x a-", ""},
		{"", "a- a=x", "a=x"},
		{"a=x", "a- a=", "a="},
		{"a=x", "a=y a-", ""},
		{"a=x", "a=y a- a-", ""},
		{"a=x b=y c=z", "a- b- c-", ""},
		{"a=x b=y c=z", "c=x a=z", "a=z b=y c=x"},
	}
	for _, test := range tests {
		got, ok := impl.ApplyOps(pairList(test.list), opsOf(test.ops))
		if !ok || pairText(got) != test.want {
			t.Errorf("ApplyOps(%s, %s) = %s, %v, want %s", test.list, test.ops, pairText(got), ok, test.want)
		}
	}
}

// TestP38MostPairs does changes behind which there are as many pairs as there
// may be, or more on the way, or at the end.
func TestP38MostPairs(t *testing.T) {
	tests := []struct {
		size int
		ops  []impl.Op
		want int
	}{
		{24, nil, 24},
		{23, opsOf("a="), 24},
		{24, opsOf("a="), -1},
		{24, opsOf("b="), 24},
		{24, opsOf("a-"), 24},
		{24, opsOf("a= b-"), 24},
		{24, opsOf("b- a="), 24},
		{24, opsOf("a= a-"), 24},
		{24, opsOf("a= z= zz= b- c-"), -1},
		{24, opsOf("a= z= zz= b- c- d-"), 24},
		{24, opsOf("a= z= zz= b- c- d- e-"), 23},
		{0, opsOfRun(longRun(0, 24, "x")), 24},
		{0, opsOfRun(longRun(0, 25, "x")), -1},
		{0, opsOfRun(longRun(0, 48, "x")), -1},
		{0, opsOfRun(append(longRun(0, 36, "x"), longRun(0, 12, "-")...)), 24},
		{24, opsOfRun(append(longRun(0, 24, "x"), longRun(0, 24, "-")...)), 24},
		{24, opsOfRun(longRun(0, 48, "-")), 24},
	}
	for i, test := range tests {
		got, ok := impl.ApplyOps(rising(test.size), test.ops)
		if ok != (test.want >= 0) || len(got) != max(test.want, 0) || ok && !slices.Equal(got, behindOps(rising(test.size), test.ops)) {
			t.Errorf("test %d: ApplyOps has %d pairs, %v", i, len(got), ok)
		}
	}
}

// TestP38WrongPairs does changes to pairs that are not those of a store.
func TestP38WrongPairs(t *testing.T) {
	for _, list := range wrongPairs() {
		for _, text := range []string{"", "a=", "a-", "a= b- c= d=x f-", "b- c- d- e- z- {-"} {
			if got, ok := impl.ApplyOps(list, opsOf(text)); ok || len(got) != 0 {
				t.Errorf("ApplyOps(%.200s, %s) = %s, %v", pairText(list), text, pairText(got), ok)
			}
		}
	}
}

// TestP39SumsTellWhatIsChanged changes each byte of texts to each other one. A
// byte that is some times 61 more or less is, by the rests, no other one.
func TestP39SumsTellWhatIsChanged(t *testing.T) {
	texts := []string{"a", "z", "=", "\x00", "\xff", "put ab x", "put a ", "drop zzz", "put abc wxyz", strings.Repeat("\xff", 70), strings.Repeat("put ab x", 20)}
	for _, text := range texts {
		sum := impl.SumOf(text)
		for place := range len(text) {
			bytes := []byte(text)
			for b := range 256 {
				bytes[place] = byte(b)
				same := (b-int(text[place]))%61 == 0
				if other := impl.SumOf(string(bytes)); (other == sum) != same {
					t.Errorf("%.20q has the sum %d, with byte %d at place %d %d", text, sum, b, place, other)
				}
			}
		}
	}
}

// TestP39LettersOfLines changes each letter of the texts of changes to each
// other one, and a space: none of these is another one by the rests.
func TestP39LettersOfLines(t *testing.T) {
	for _, text := range []string{"put abc wxyz", "put m ", "drop nop"} {
		for place := range len(text) {
			for _, letter := range " abcdefghijklmnopqrstuvwxyz" {
				other := text[:place] + string(letter) + text[place+1:]
				if (other == text) != (impl.SumOf(other) == impl.SumOf(text)) {
					t.Errorf("%q and %q have the sums %d and %d", text, other, impl.SumOf(text), impl.SumOf(other))
				}
			}
		}
	}
}

// TestP39Examples checks sums written out, and those of texts of any length.
func TestP39Examples(t *testing.T) {
	tests := []struct {
		text string
		want int
	}{
		{"", 1}, {"\x00", 62}, {"=", 62}, {"a", 37*61 + 37}, {"\x01", 2*61 + 2}, {"<", 0}, {"\x00\x00", 2*61 + 1},
		{"ab", 50*61 + 13}, {"ba", 51*61 + 13}, {"\xff", 12*61 + 12},
		{strings.Repeat("\x00", 61), 1}, {strings.Repeat("\x00", 1200), 41*61 + 1}, {strings.Repeat("\x01", 60), 60 * 61},
	}
	for _, test := range tests {
		if got := impl.SumOf(test.text); got != test.want {
			t.Errorf("SumOf(%.20q) = %d, want %d", test.text, got, test.want)
		}
	}
	for size := range 1201 {
		for _, text := range []string{strings.Repeat("put ab x#\n", 121)[:size], strings.Repeat("\xff\xfe\x80", 401)[:size]} {
			if got := impl.SumOf(text); got != sumModel(text) {
				t.Errorf("SumOf %d bytes = %d, want %d", size, got, sumModel(text))
			}
		}
	}
	for _, size := range []int{1201, 1202, 2400, 1000000} {
		if got := impl.SumOf(strings.Repeat("a", size)); got != -1 {
			t.Errorf("SumOf %d bytes = %d", size, got)
		}
	}
}

// checkRead reads a text as the document tells, and writes it back.
func checkRead(t *testing.T, s string) {
	t.Helper()
	got, n := impl.ReadLog(s)
	want, told := readModel(s)
	if n != told || !slices.Equal(got, want) {
		t.Fatalf("ReadLog(%q) = %s, %d, want %s, %d", s, opsText(got), n, opsText(want), told)
	}
	if len(got) <= 48 && impl.LogText(got) != s[:n] {
		t.Fatalf("LogText(%s) = %q, want %q", opsText(got), impl.LogText(got), s[:n])
	}
}

// TestP40LogsAreReadBack writes changes, and reads the first bytes, any number of them.
func TestP40LogsAreReadBack(t *testing.T) {
	for _, ops := range slices.Concat(fewOps(), walkedOps(60)) {
		log := impl.LogText(ops)
		if log != linesModel(ops) {
			t.Fatalf("LogText(%s) = %q", opsText(ops), log)
		}
		first, told := 0, 0
		for n := range len(log) + 1 {
			if n > 0 && log[n-1] == '\n' {
				first, told = first+1, n
			}
			got, m := impl.ReadLog(log[:n])
			if m != told || !slices.Equal(got, ops[:first]) {
				t.Fatalf("ReadLog(%q) = %s, %d, want %s, %d", log[:n], opsText(got), m, opsText(ops[:first]), told)
			}
		}
		if first != len(ops) {
			t.Errorf("LogText(%s) has %d lines", opsText(ops), first)
		}
	}
}

// TestP40Examples checks logs written out.
func TestP40Examples(t *testing.T) {
	tests := []struct{ ops, want string }{
		{"", ""},
		{"a=", "put a #2215\n"},
		{"a=x", "put a x#3250\n"},
		{"ab=x", "put ab x#1823\n"},
		{"a-", "drop a#2641\n"},
		{"zzz-", "drop zzz#1995\n"},
		{"abc=wxyz", "put abc wxyz#271\n"},
		{"a- a= a-", "drop a#2641\nput a #2215\ndrop a#2641\n"},
	}
	for _, test := range tests {
		log := impl.LogText(opsOf(test.ops))
		if log != test.want || log != linesModel(opsOf(test.ops)) {
			t.Errorf("LogText(%s) = %q, want %q", test.ops, log, linesModel(opsOf(test.ops)))
		}
		if got, n := impl.ReadLog(test.want); opsText(got) != test.ops || n != len(test.want) {
			t.Errorf("ReadLog(%q) = %s, %d", test.want, opsText(got), n)
		}
	}
	longest := slices.Repeat(opsOf("abz=wxyz"), 48)
	if got, n := impl.ReadLog(impl.LogText(longest)); !slices.Equal(got, longest) || n != 48*len(lineModel(longest[0])) {
		t.Errorf("ReadLog of the longest LogText has %d changes in %d bytes", len(got), n)
	}
}

// TestP40AnotherByte reads a log with another byte in one place: what is told
// ends ahead of the line that has it.
func TestP40AnotherByte(t *testing.T) {
	ops := opsOf("ab=x m= zzz- n=wxyz ab-")
	log := impl.LogText(ops)
	line, begin := 0, 0
	for place := range len(log) {
		for b := range 256 {
			other := log[:place] + string([]byte{byte(b)}) + log[place+1:]
			checkRead(t, other)
			if got, n := impl.ReadLog(other); other != log && (n != begin || !slices.Equal(got, ops[:line])) {
				t.Errorf("ReadLog(%q) = %s, %d, want %s, %d", other, opsText(got), n, opsText(ops[:line]), begin)
			}
			checkRead(t, log[:place]+string([]byte{byte(b)})+log[place:])
		}
		checkRead(t, log[:place]+log[place+1:])
		if log[place] == '\n' {
			line, begin = line+1, place+1
		}
	}
}

// TestP40WrongLines reads lines that are wrong, alone, and between others.
func TestP40WrongLines(t *testing.T) {
	ahead, behind := opsOf("a=x ab= z-"), impl.LogText(opsOf("b= a-"))
	log := impl.LogText(ahead)
	for _, wrong := range wrongLines() {
		for _, more := range []string{"", behind, wrong} {
			if got, n := impl.ReadLog(wrong + more); len(got) != 0 || n != 0 {
				t.Errorf("ReadLog(%q) = %s, %d", wrong+more, opsText(got), n)
			}
			if got, n := impl.ReadLog(log + wrong + more); !slices.Equal(got, ahead) || n != len(log) {
				t.Errorf("ReadLog(%q) = %s, %d", log+wrong+more, opsText(got), n)
			}
		}
		checkRead(t, wrong)
		checkRead(t, wrong[:len(wrong)-1])
	}
}

// TestP40MoreChanges reads more changes than there may be at once, up to as many
// bytes as there may be.
func TestP40MoreChanges(t *testing.T) {
	full := longLog(1200)
	if len(full) != 1200 {
		t.Fatalf("the log has %d bytes", len(full))
	}
	checkRead(t, full)
	if got, n := impl.ReadLog(full); len(got) != 67 || n != 1200 {
		t.Errorf("ReadLog of 1200 bytes has %d changes in %d bytes", len(got), n)
	}
	if got, n := impl.ReadLog(full[:1199]); len(got) != 66 || n != 1188 {
		t.Errorf("ReadLog of 1199 bytes has %d changes in %d bytes", len(got), n)
	}
	for _, last := range []string{"x", "\n", " ", "\x00", lineOfSize(12), strings.Repeat("x", 1200), strings.Repeat("\n", 100000)} {
		if got, n := impl.ReadLog(full + last); len(got) != 0 || n != -1 {
			t.Errorf("ReadLog of %d bytes = %s, %d", 1200+len(last), opsText(got), n)
		}
	}
	short := lineOfSize(12)
	for count := range 101 {
		got, n := impl.ReadLog(strings.Repeat(short, count))
		if len(got) != count || n != 12*count {
			t.Errorf("ReadLog of %d lines has %d changes in %d bytes", count, len(got), n)
		}
		checkRead(t, strings.Repeat(short, count))
	}
	checkRead(t, strings.Repeat("x", 1200))
	checkRead(t, strings.Repeat("\n", 1200))
	checkRead(t, short+strings.Repeat("\xff", 1188))
}

// TestP41WhatIsReadIsWrittenBack reads logs of which some bytes are others, and
// texts of the letters of logs.
func TestP41WhatIsReadIsWrittenBack(t *testing.T) {
	next := rolls(73)
	told := map[bool]int{}
	for _, ops := range walkedOps(600) {
		bytes := []byte(linesModel(ops))
		for range next(3) {
			if len(bytes) > 0 {
				bytes[next(len(bytes))] = byte(next(256))
			}
		}
		checkRead(t, string(bytes))
		_, n := impl.ReadLog(string(bytes))
		told[n == len(bytes)]++
	}
	if told[true] < 100 || told[false] < 100 {
		t.Errorf("all is told of %d logs, of %d not", told[true], told[false])
	}
	letters := "put drop abz#0123\n"
	for range 3000 {
		var text []byte
		for range next(40) {
			text = append(text, letters[next(len(letters))])
		}
		checkRead(t, string(text))
		checkRead(t, summed(string(text)))
	}
}

// checkShort shortens changes as the document tells.
func checkShort(t *testing.T, ops []impl.Op) {
	t.Helper()
	got := impl.ShortOps(ops)
	if want := shortModel(ops); !impl.ValidOps(got) || !slices.Equal(got, want) {
		t.Fatalf("ShortOps(%s) = %s, want %s", opsText(ops), opsText(got), opsText(want))
	}
	for i, op := range got {
		for _, other := range got[:i] {
			if other.Key == op.Key {
				t.Errorf("ShortOps(%s) = %s has %q twice", opsText(ops), opsText(got), op.Key)
			}
		}
	}
	if again := impl.ShortOps(got); !slices.Equal(again, got) {
		t.Errorf("ShortOps(%s) = %s", opsText(got), opsText(again))
	}
}

// TestP42ShortChangesHaveEachKeyOnce shortens few changes, and many.
func TestP42ShortChangesHaveEachKeyOnce(t *testing.T) {
	for _, ops := range slices.Concat(fewOps(), walkedOps(600)) {
		checkShort(t, ops)
		checkShort(t, append(slices.Clone(ops[:len(ops)/2]), ops[:len(ops)/2]...))
	}
}

// TestP42Examples checks short changes written out.
func TestP42Examples(t *testing.T) {
	tests := []struct{ ops, want string }{
		{"", ""},
		{"a=", "a="},
		{"a-", "a-"},
		{"a= a=", "a="},
		{"a=x a=", "a="},
		{"a=x a-", "a-"},
		{"a- a=x", "a=x"},
		{"a=x b=y a-", "b=y a-"},
		{"a=x b=y c- b-", "a=x c- b-"},
		{"b=x a=y", "b=x a=y"},
		{"a=x aa=x a=y aaa=x aa-", "a=y aaa=x aa-"},
		{"c= b= a= a= b= c=", "a= b= c="},
	}
	for _, test := range tests {
		if got := impl.ShortOps(opsOf(test.ops)); opsText(got) != test.want {
			t.Errorf("ShortOps(%s) = %s, want %s", test.ops, opsText(got), test.want)
		}
	}
}

// checkOpsFor makes pairs of others as the document tells, and back.
func checkOpsFor(t *testing.T, from, to []impl.Pair) {
	t.Helper()
	ops := impl.OpsFor(from, to)
	if want := opsForModel(from, to); !slices.Equal(ops, want) {
		t.Fatalf("OpsFor(%s, %s) = %s, want %s", pairText(from), pairText(to), opsText(ops), opsText(want))
	}
	if got, ok := impl.ApplyOps(from, ops); !ok || !slices.Equal(got, to) {
		t.Errorf("OpsFor(%s, %s) = %s makes %s, %v", pairText(from), pairText(to), opsText(ops), pairText(got), ok)
	}
	if (len(ops) == 0) != slices.Equal(from, to) {
		t.Errorf("OpsFor(%s, %s) = %s", pairText(from), pairText(to), opsText(ops))
	}
	if back := impl.OpsFor(to, from); len(back) != len(ops) {
		t.Errorf("OpsFor(%s, %s) = %s, and back %s", pairText(from), pairText(to), opsText(ops), opsText(back))
	}
	if !slices.IsSortedFunc(ops, func(a, b impl.Op) int { return strings.Compare(a.Key, b.Key) }) {
		t.Errorf("OpsFor(%s, %s) = %s is in no order", pairText(from), pairText(to), opsText(ops))
	}
}

// TestP43ChangesMakeTheOthers makes any few pairs of any others, and many of many.
func TestP43ChangesMakeTheOthers(t *testing.T) {
	few := fewStores("a", "aa", "b", "zzz")
	for _, from := range few {
		for _, to := range few {
			checkOpsFor(t, from, to)
		}
	}
	many := walkedStores(60)
	for _, from := range many {
		for _, to := range many {
			checkOpsFor(t, from, to)
		}
	}
}

// TestP43Examples checks the changes of pairs written out.
func TestP43Examples(t *testing.T) {
	tests := []struct{ from, to, want string }{
		{"", "", ""},
		{"", "a=", "a="},
		{"a=", "", "a-"},
		{"a=x", "", "a-"},
		{"a=x", "a=x", ""},
		{"a=", "a=", ""},
		{"a=", "a=x", "a=x"},
		{"a=x", "a=", "a="},
		{"a=x", "b=x", "a- b=x"},
		{"b=x", "a=x", "a=x b-"},
		{"a= b= c=", "b=", "a- c-"},
		{"b=", "a= b= c=", "a= c="},
		{"a=x b=y d=z", "b=q c= d=z", "a- b=q c="},
		{"a=x b=y", "a=y b=x", "a=y b=x"},
	}
	for _, test := range tests {
		if got := impl.OpsFor(pairList(test.from), pairList(test.to)); opsText(got) != test.want {
			t.Errorf("OpsFor(%s, %s) = %s, want %s", test.from, test.to, opsText(got), test.want)
		}
	}
	var other []impl.Pair
	for _, item := range longRun(0, 24, "x") {
		other = append(other, impl.Pair{Key: item.Key, Value: item.Value})
	}
	checkOpsFor(t, rising(24), other)
	if got := impl.OpsFor(rising(24), other); len(got) != 48 || !impl.ValidOps(got) {
		t.Errorf("OpsFor of 24 other pairs = %s", opsText(got))
	}
}

// TestP43WrongPairs makes pairs of pairs that are not those of a store, and back.
func TestP43WrongPairs(t *testing.T) {
	for _, wrong := range wrongPairs() {
		for _, list := range [][]impl.Pair{nil, pairList("a=x b="), rising(24), wrong} {
			if got := impl.OpsFor(wrong, list); len(got) != 0 {
				t.Errorf("OpsFor(%.200s, %s) = %s", pairText(wrong), pairText(list), opsText(got))
			}
			if got := impl.OpsFor(list, wrong); len(got) != 0 {
				t.Errorf("OpsFor(%s, %.200s) = %s", pairText(list), pairText(wrong), opsText(got))
			}
		}
	}
}

// TestLogsAreFresh checks that results share no memory with arguments, and that
// these stay, with what is behind them.
func TestLogsAreFresh(t *testing.T) {
	stores := walkedStores(20)
	for i, changes := range slices.Concat(fewOps(), walkedOps(100)) {
		ops, list, other := roomy(changes), roomy(stores[i%len(stores)]), roomy(stores[(i+7)%len(stores)])
		keptOps, keptList, keptOther := slices.Clone(ops[:cap(ops)]), slices.Clone(list[:cap(list)]), slices.Clone(other[:cap(other)])
		log := impl.LogText(ops)
		behind, _ := impl.ApplyOps(list, ops)
		same, _ := impl.ApplyOps(list, nil)
		read, _ := impl.ReadLog(log)
		again, _ := impl.ReadLog(log)
		allOps := [][]impl.Op{ops, read, again, impl.ShortOps(ops), impl.ShortOps(ops[:len(ops)/2]), impl.OpsFor(list, other)}
		allPairs := [][]impl.Pair{list, other, behind, same}
		if !slices.Equal(ops[:cap(ops)], keptOps) || !slices.Equal(list[:cap(list)], keptList) || !slices.Equal(other[:cap(other)], keptOther) {
			t.Fatalf("arguments are now %s, %s and %s", opsText(ops), pairText(list), pairText(other))
		}
		if !listsApart(func(i int) impl.Op { return impl.Op{Key: strconv.Itoa(i)} }, allOps...) || !listsApart(func(i int) impl.Pair { return impl.Pair{Key: strconv.Itoa(i)} }, allPairs...) {
			t.Errorf("%s: results share memory", opsText(keptOps[:len(changes)]))
		}
	}
}
