package tests

import (
	"slices"
	"strconv"
	"strings"
	"testing"

	"loop.example/storeofkeys/impl"
)

// TestP25RangesAreQueries asks trees, and queries of their pairs, for the pairs
// between two texts.
func TestP25RangesAreQueries(t *testing.T) {
	found := map[bool]int{}
	check := func(tree impl.Node, bounds []string) {
		list := impl.ListTree(tree)
		for _, low := range bounds {
			for _, high := range bounds {
				got, ok := impl.RunQuery("range "+low+" "+high, list)
				if want := impl.RangeTree(tree, low, high); !ok || !slices.Equal(got, want) {
					t.Fatalf("%s: RunQuery of range %s %s = %s, %v, but RangeTree is %s", shapeOf(tree), low, high, pairText(got), ok, pairText(want))
				}
				found[len(got) > 0]++
			}
		}
	}
	manyTrees(func(tree impl.Node) { check(tree, []string{"a", "c", "cm", "f", "zzz"}) })
	for _, list := range walkedStores(40) {
		tree, _ := impl.BuildTree(list)
		check(tree, append(keysBetween()[:20], "aa", "aaa", "bb", "bbb", "cc", "zzz"))
	}
	if found[true] < 1000 || found[false] < 1000 {
		t.Errorf("%d ranges have pairs, %d have none", found[true], found[false])
	}
}

// TestP25Examples checks ranges written out, also of nothing, by trees and by
// queries. Queries know no texts that are empty.
func TestP25Examples(t *testing.T) {
	list := pairList("a=x aa=y ab= b=z bz= c=w")
	tree, _ := impl.BuildTree(list)
	tests := []struct{ low, high, want string }{
		{"a", "zzz", "a=x aa=y ab= b=z bz= c=w"},
		{"a", "b", "a=x aa=y ab="},
		{"aa", "ab", "aa=y"},
		{"aa", "aba", "aa=y ab="},
		{"ac", "bzz", "b=z bz="},
		{"c", "ca", "c=w"},
		{"a", "a", ""},
		{"ab", "aa", ""},
		{"b", "a", ""},
		{"zzz", "a", ""},
		{"zzz", "zzz", ""},
		{"aaa", "aab", ""},
		{"ca", "zzz", ""},
	}
	for _, test := range tests {
		got, ok := impl.RunQuery("range "+test.low+" "+test.high, list)
		if tree := impl.RangeTree(tree, test.low, test.high); !ok || pairText(got) != test.want || pairText(tree) != test.want {
			t.Errorf("range %s %s: RunQuery = %s, %v, RangeTree = %s, want %s", test.low, test.high, pairText(got), ok, pairText(tree), test.want)
		}
	}
	if got := pairText(impl.RangeTree(tree, "", "b")); got != "a=x aa=y ab=" {
		t.Errorf("RangeTree of an empty text = %s", got)
	}
	for _, s := range []string{"range  b", "range a ", "range  "} {
		if got, ok := impl.RunQuery(s, list); ok || len(got) != 0 {
			t.Errorf("RunQuery(%q) = %s, %v", s, pairText(got), ok)
		}
	}
}

// checkQuery compares ReadQuery with the document, and reports whether a text is
// a query.
func checkQuery(t *testing.T, s string) bool {
	t.Helper()
	got, ok := impl.ReadQuery(s)
	want, fine := stepsModel(s)
	if ok != fine || !slices.Equal(got, want) {
		t.Fatalf("ReadQuery(%.300q) = %v, %v, want %v, %v", s, got, ok, want, fine)
	}
	if ok && stepsText(got) != s {
		t.Errorf("ReadQuery(%q) is of %q", s, stepsText(got))
	}
	return ok
}

// TestP68QueriesAreOneStepBehindTheOther puts rev behind queries.
func TestP68QueriesAreOneStepBehindTheOther(t *testing.T) {
	sizes := map[int]int{}
	manyQueries(func(s string) {
		if !checkQuery(t, s) {
			t.Fatalf("%q is no query", s)
		}
		steps, _ := impl.ReadQuery(s)
		sizes[len(steps)]++
		more, ok := impl.ReadQuery(strings.TrimPrefix(s+" | rev", " | "))
		if len(steps) == 8 {
			if ok || len(more) != 0 {
				t.Errorf("ReadQuery of %q and one more step = %v, %v", s, more, ok)
			}
		} else if !ok || !slices.Equal(more, append(steps, impl.Step{Kind: "rev"})) {
			t.Errorf("ReadQuery of %q and rev = %v, %v", s, more, ok)
		}
	})
	for n := range 9 {
		if sizes[n] == 0 || n > 0 && sizes[n] < 100 {
			t.Errorf("only %d queries have %d steps", sizes[n], n)
		}
	}
}

// TestP68Examples reads queries written out.
func TestP68Examples(t *testing.T) {
	rev := impl.Step{Kind: "rev"}
	tests := []struct {
		s    string
		want []impl.Step
	}{
		{"", nil},
		{"rev", []impl.Step{rev}},
		{"rev | rev", []impl.Step{rev, rev}},
		{"range a b", []impl.Step{{Kind: "range", A: "a", B: "b"}}},
		{"range abc xyz", []impl.Step{{Kind: "range", A: "abc", B: "xyz"}}},
		{"range b a", []impl.Step{{Kind: "range", A: "b", B: "a"}}},
		{"range a a", []impl.Step{{Kind: "range", A: "a", B: "a"}}},
		{"range rev any", []impl.Step{{Kind: "range", A: "rev", B: "any"}}},
		{"from a", []impl.Step{{Kind: "from", A: "a"}}},
		{"from zzz", []impl.Step{{Kind: "from", A: "zzz"}}},
		{"under ab", []impl.Step{{Kind: "under", A: "ab"}}},
		{"with rev", []impl.Step{{Kind: "with", A: "rev"}}},
		{"first 0", []impl.Step{{Kind: "first"}}},
		{"first 9", []impl.Step{{Kind: "first", N: 9}}},
		{"first 10", []impl.Step{{Kind: "first", N: 10}}},
		{"first 24", []impl.Step{{Kind: "first", N: 24}}},
		{"from a | rev | first 1 | with b", []impl.Step{{Kind: "from", A: "a"}, rev, {Kind: "first", N: 1}, {Kind: "with", A: "b"}}},
		{"rev | rev | rev | rev | rev | rev | rev | rev", slices.Repeat([]impl.Step{rev}, 8)},
	}
	for _, test := range tests {
		if got, ok := impl.ReadQuery(test.s); !ok || !slices.Equal(got, test.want) {
			t.Errorf("ReadQuery(%q) = %v, %v", test.s, got, ok)
		}
	}
	for n := range 40 {
		s := "first " + strconv.Itoa(n)
		if got, ok := impl.ReadQuery(s); ok != (n <= 24) || ok && got[0].N != n {
			t.Errorf("ReadQuery(%q) = %v, %v", s, got, ok)
		}
	}
}

// TestP68MostBytes reads queries of as many bytes, and of as many steps, as there
// may be, and of more.
func TestP68MostBytes(t *testing.T) {
	sizes := map[int]bool{}
	for _, s := range fullQueries() {
		if got, ok := impl.ReadQuery(s); !ok || len(got) != 8 {
			t.Errorf("ReadQuery(%q) = %v, %v", s, got, ok)
		}
		for _, more := range []string{s + " ", " " + s, s + "a", s + " | rev", "rev | " + s, s + " | "} {
			checkQuery(t, more)
		}
		sizes[len(s)] = true
	}
	if !sizes[120] {
		t.Errorf("none has as many bytes as there may be: %v", sizes)
	}
	wide := strings.Repeat("range abc xyz | ", 7)
	for last, want := range map[string]bool{"rev": true, "with a": true, "from abc": true, "first 24": true, "under ab": true, "range a b": false, "under abc": false, "range abc xyz": false} {
		if checkQuery(t, wide+last) != want {
			t.Errorf("ReadQuery of %d bytes is not %v", len(wide+last), want)
		}
	}
}

// TestP68OtherBytes puts another byte at each place of queries, leaves out each
// one, and has each one twice.
func TestP68OtherBytes(t *testing.T) {
	read := map[bool]int{}
	for _, s := range []string{"range a bc", "range abc x | rev", "from ab | first 3", "under b", "with abc | with c", "first 24 | rev", "rev | rev | first 10", "rev"} {
		for i := range len(s) {
			for b := range 256 {
				read[checkQuery(t, s[:i]+string([]byte{byte(b)})+s[i+1:])]++
				read[checkQuery(t, s[:i]+string([]byte{byte(b)})+s[i:])]++
			}
			read[checkQuery(t, s[:i]+s[i+1:])]++
			read[checkQuery(t, s[:i])]++
			read[checkQuery(t, s[i:])]++
		}
	}
	if read[true] < 500 || read[false] < 1000 {
		t.Errorf("%d are queries, %d are not", read[true], read[false])
	}
}

// TestWrongQueries checks every function on texts that are no queries, and on
// pairs that are not those of a store.
func TestWrongQueries(t *testing.T) {
	check := func(s string, list []impl.Pair) {
		if got, ok := impl.RunQuery(s, list); ok || len(got) != 0 {
			t.Errorf("RunQuery(%.300q, %.300s) = %s, %v", s, pairText(list), pairText(got), ok)
		}
		if got := impl.CostQuery(s, list); got != -1 {
			t.Errorf("CostQuery(%.300q, %.300s) = %d", s, pairText(list), got)
		}
	}
	for _, s := range notQueries() {
		if checkQuery(t, s) {
			t.Errorf("%q is a query", s)
		}
		if got := impl.RuleQuery(s); len(got) != 0 {
			t.Errorf("RuleQuery(%.300q) = %q", s, got)
		}
		if got, ok := impl.BestQuery(s); ok || got != "" {
			t.Errorf("BestQuery(%.300q) = %q, %v", s, got, ok)
		}
		check(s, nil)
		check(s, rising(24))
		check(s, rising(25))
	}
	for _, list := range wrongPairs() {
		for _, s := range []string{"", "rev", "first 0", "first 24", "from a", "range b a", "with a | rev", "x"} {
			check(s, list)
		}
		for _, other := range [][]impl.Pair{nil, pairList("a=x b="), rising(24), list} {
			if len(impl.JoinPairs(list, other)) != 0 || len(impl.JoinPairs(other, list)) != 0 {
				t.Errorf("JoinPairs of %.300s and %s has pairs", pairText(list), pairText(other))
			}
		}
	}
}

// checkRun compares RunQuery and CostQuery with the document.
func checkRun(t *testing.T, s string, list []impl.Pair) []impl.Pair {
	t.Helper()
	steps, _ := stepsModel(s)
	want, cost := behindSteps(steps, list)
	got, ok := impl.RunQuery(s, list)
	if !ok || !slices.Equal(got, want) {
		t.Fatalf("RunQuery(%q, %s) = %s, %v, want %s", s, pairText(list), pairText(got), ok, pairText(want))
	}
	if got := impl.CostQuery(s, list); got != cost {
		t.Fatalf("CostQuery(%q, %s) = %d, want %d", s, pairText(list), got, cost)
	}
	return got
}

// TestP69QueriesRunTheSameByAnyWay runs queries, what they become by rules, and
// the best of them.
func TestP69QueriesRunTheSameByAnyWay(t *testing.T) {
	stores := manyStores()
	found := map[bool]int{}
	manyQueries(func(s string) {
		best, _ := impl.BestQuery(s)
		ways := append(impl.RuleQuery(s), best)
		for _, list := range stores {
			want := checkRun(t, s, list)
			for _, way := range ways {
				if got, ok := impl.RunQuery(way, list); !ok || !slices.Equal(got, want) {
					t.Errorf("RunQuery(%q, %s) = %s, but of %q it is %s, %v", s, pairText(list), pairText(want), way, pairText(got), ok)
				}
			}
			found[len(want) > 0]++
		}
	})
	if found[true] < 1000 || found[false] < 1000 {
		t.Errorf("%d times there are pairs, %d times there are none", found[true], found[false])
	}
}

// TestP69Examples runs queries written out.
func TestP69Examples(t *testing.T) {
	list := pairList("a=x aa=y ab= b=z ba= c=w")
	tests := []struct{ s, want string }{
		{"", "a=x aa=y ab= b=z ba= c=w"},
		{"rev", "c=w ba= b=z ab= aa=y a=x"},
		{"rev | rev", "a=x aa=y ab= b=z ba= c=w"},
		{"range a b", "a=x aa=y ab="},
		{"range aa ba", "aa=y ab= b=z"},
		{"range b b", ""},
		{"range c a", ""},
		{"from b", "b=z ba= c=w"},
		{"from aab", "ab= b=z ba= c=w"},
		{"from zzz", ""},
		{"under b", "a=x aa=y ab="},
		{"under a", ""},
		{"under zzz", "a=x aa=y ab= b=z ba= c=w"},
		{"with a", "a=x aa=y ab="},
		{"with ab", "ab="},
		{"with aba", ""},
		{"with d", ""},
		{"first 0", ""},
		{"first 1", "a=x"},
		{"first 5", "a=x aa=y ab= b=z ba="},
		{"first 6", "a=x aa=y ab= b=z ba= c=w"},
		{"first 24", "a=x aa=y ab= b=z ba= c=w"},
		{"first 2 | rev", "aa=y a=x"},
		{"rev | first 2", "c=w ba="},
		{"rev | first 2 | rev", "ba= c=w"},
		{"rev | from b", "c=w ba= b=z"},
		{"rev | range aa b", "ab= aa=y"},
		{"first 3 | from aa", "aa=y ab="},
		{"from aa | first 3", "aa=y ab= b=z"},
		{"rev | with b | first 1", "ba="},
		{"first 4 | with b", "b=z"},
		{"first 3 | first 5 | first 2", "a=x aa=y"},
		{"rev | first 0 | rev", ""},
		{"from a | from b | under c | rev", "ba= b=z"},
	}
	for _, test := range tests {
		if got, ok := impl.RunQuery(test.s, list); !ok || pairText(got) != test.want {
			t.Errorf("RunQuery(%q) = %s, %v, want %s", test.s, pairText(got), ok, test.want)
		}
		if got, ok := impl.RunQuery(test.s, nil); !ok || len(got) != 0 {
			t.Errorf("RunQuery(%q) of no pairs = %s, %v", test.s, pairText(got), ok)
		}
	}
}

// TestP70RulesLeadTogether takes the best of what queries become by each rule.
func TestP70RulesLeadTogether(t *testing.T) {
	ways := map[int]int{}
	manyQueries(func(s string) {
		steps, _ := stepsModel(s)
		rules := impl.RuleQuery(s)
		if want := rulesModel(steps); !slices.Equal(rules, want) {
			t.Fatalf("RuleQuery(%q) = %q, want %q", s, rules, want)
		}
		best, ok := impl.BestQuery(s)
		if want := bestModel(steps); !ok || best != want {
			t.Fatalf("BestQuery(%q) = %q, %v, want %q", s, best, ok, want)
		}
		for _, other := range rules {
			if got, ok := impl.BestQuery(other); !ok || got != best {
				t.Errorf("BestQuery(%q) = %q, %v, but of %q it is %q", other, got, ok, s, best)
			}
		}
		ways[len(rules)]++
	})
	for n := range 8 {
		if ways[n] < 10 {
			t.Errorf("only %d queries have %d rules", ways[n], n)
		}
	}
}

// TestP70Examples checks what queries written out become by one rule.
func TestP70Examples(t *testing.T) {
	tests := []struct {
		s    string
		want []string
	}{
		{"", nil},
		{"rev", nil}, {"first 0", nil}, {"first 24", nil}, {"range a b", nil}, {"range a ab", nil}, {"from a", nil}, {"under a", nil}, {"with a", nil},
		{"range a a", []string{"first 0"}},
		{"range b a", []string{"first 0"}},
		{"range ab a", []string{"first 0"}},
		{"range b abc", []string{"first 0"}},
		{"first 0 | rev", []string{"first 0"}},
		{"rev | first 0", []string{"first 0"}},
		{"first 0 | first 0", []string{"first 0", "first 0", "first 0"}},
		{"first 0 | first 1", []string{"first 0", "first 0"}},
		{"first 1 | first 0", []string{"first 0", "first 0"}},
		{"with a | first 0 | with b", []string{"first 0"}},
		{"first 5 | first 3", []string{"first 3"}},
		{"first 3 | first 5", []string{"first 3"}},
		{"first 4 | first 4", []string{"first 4"}},
		{"first 9 | first 10", []string{"first 9"}},
		{"first 2 | first 1 | first 3", []string{"first 1 | first 3", "first 2 | first 1"}},
		{"rev | rev", []string{""}},
		{"rev | rev | rev", []string{"rev", "rev"}},
		{"rev | rev | with a", []string{"with a", "rev | with a | rev"}},
		{"rev | range a b", []string{"range a b | rev"}},
		{"rev | from a", []string{"from a | rev"}},
		{"rev | under a", []string{"under a | rev"}},
		{"rev | with a", []string{"with a | rev"}},
		{"rev | first 1", nil}, {"first 1 | rev", nil},
		{"with a | range b c", []string{"range b c | with a"}},
		{"with a | from b", []string{"from b | with a"}},
		{"with a | under b", []string{"under b | with a"}},
		{"with a | rev", nil}, {"with a | first 1", nil}, {"first 1 | with a", nil},
		{"range a b | with a", nil}, {"from a | with a", nil}, {"under a | with a", nil},
		{"range a b | rev", nil}, {"from a | rev", nil}, {"under a | rev", nil},
		{"range a b | first 1", nil}, {"first 1 | range a b", nil}, {"first 1 | from a", nil}, {"first 1 | under a", nil},
		{"with a | with a", []string{"with a"}},
		{"with a | with ab", []string{"with ab"}},
		{"with ab | with a", []string{"with ab"}},
		{"with abc | with ab", []string{"with abc"}},
		{"with a | with b", []string{"first 0"}},
		{"with ab | with ac", []string{"first 0"}},
		{"with abc | with bc", []string{"first 0"}},
		{"with b | with ab", []string{"first 0"}},
		{"from a | from b", []string{"from b"}},
		{"from b | from a", []string{"from b"}},
		{"from a | from ab", []string{"from ab"}},
		{"under a | under b", []string{"under a"}},
		{"under b | under a", []string{"under a"}},
		{"under ab | under a", []string{"under a"}},
		{"from a | under b", []string{"range a b"}},
		{"under b | from a", []string{"range a b"}},
		{"from b | under a", []string{"range b a"}},
		{"under a | from a", []string{"range a a"}},
		{"range a d | range b e", []string{"range b d"}},
		{"range b e | range a d", []string{"range b d"}},
		{"range a b | range c d", []string{"range c b"}},
		{"range a e | range b d", []string{"range b d"}},
		{"range a d | from b", []string{"range b d"}},
		{"from a | range b d", []string{"range b d"}},
		{"range a d | from e", []string{"range e d"}},
		{"range a d | under c", []string{"range a c"}},
		{"under e | range a d", []string{"range a d"}},
		{"range b a | from c", []string{"first 0 | from c", "range c a"}},
		{"range b a | range d c", []string{"first 0 | range d c", "range d a", "range b a | first 0"}},
		{"rev | range b a", []string{"range b a | rev", "rev | first 0"}},
		{"with a | range b b | first 0", []string{"range b b | with a | first 0", "with a | first 0 | first 0", "first 0"}},
		{"rev | with a | from b | rev", []string{"with a | rev | from b | rev", "rev | from b | with a | rev"}},
		{"rev | first 3 | from a", nil},
		{"rev | first 3 | rev", nil},
		{"with a | rev | with a", []string{"with a | with a | rev"}},
		{"from a | with a | from a", []string{"from a | from a | with a"}},
		{"from a | first 2 | from a", nil},
	}
	for _, test := range tests {
		if got := impl.RuleQuery(test.s); !slices.Equal(got, test.want) {
			t.Errorf("RuleQuery(%q) = %q, want %q", test.s, got, test.want)
		}
	}
}

// TestP71RulesComeToAnEnd looks for rules of the best queries.
func TestP71RulesComeToAnEnd(t *testing.T) {
	sizes := map[int]int{}
	fewer := 0
	manyQueries(func(s string) {
		best, ok := impl.BestQuery(s)
		if rules := impl.RuleQuery(best); !ok || len(rules) != 0 {
			t.Errorf("BestQuery(%q) = %q, %v becomes %q", s, best, ok, rules)
		}
		if again, ok := impl.BestQuery(best); !ok || again != best {
			t.Errorf("BestQuery(%q) = %q, %v", best, again, ok)
		}
		was, _ := impl.ReadQuery(s)
		is, ok := impl.ReadQuery(best)
		if !ok || len(is) > len(was) {
			t.Errorf("BestQuery(%q) = %q has more steps", s, best)
		}
		if len(impl.RuleQuery(s)) == 0 && best != s {
			t.Errorf("BestQuery(%q) = %q, though no rule is there", s, best)
		}
		if len(is) < len(was) {
			fewer++
		}
		sizes[len(is)]++
	})
	for n := range 6 {
		if sizes[n] < 10 || fewer < 1000 {
			t.Errorf("only %d best queries have %d steps, and %d have fewer", sizes[n], n, fewer)
		}
	}
}

// TestP71Examples checks the best of queries written out.
func TestP71Examples(t *testing.T) {
	tests := []struct{ s, want string }{
		{"", ""},
		{"rev", "rev"},
		{"rev | rev", ""},
		{"rev | rev | rev", "rev"},
		{"rev | rev | rev | rev | rev | rev | rev | rev", ""},
		{"first 0", "first 0"},
		{"first 7", "first 7"},
		{"range a b", "range a b"},
		{"range b a", "first 0"},
		{"range b b", "first 0"},
		{"from a | under a", "first 0"},
		{"from a | under b", "range a b"},
		{"under b | from a | rev", "range a b | rev"},
		{"range b a | from c", "first 0"},
		{"range a b | range c d", "first 0"},
		{"with a | with b", "first 0"},
		{"with a | from b", "from b | with a"},
		{"with a | rev | with ab", "with ab | rev"},
		{"with a | rev | with b", "first 0"},
		{"rev | with a | from b", "from b | with a | rev"},
		{"rev | with a | rev", "with a"},
		{"rev | first 3 | rev", "rev | first 3 | rev"},
		{"first 3 | rev | rev | first 5", "first 3"},
		{"first 3 | rev | first 5", "first 3 | rev | first 5"},
		{"with a | first 3 | with b", "with a | first 3 | with b"},
		{"with a | first 3 | with b | first 0", "first 0"},
		{"rev | range b a | first 3", "first 0"},
		{"from b | first 3 | under a", "from b | first 3 | under a"},
		{"rev | with abc | under c | with a | from b | rev | rev", "range b c | with abc | rev"},
		{"with a | under c | first 9 | with a | from ab | first 8", "under c | with a | first 9 | from ab | with a | first 8"},
		{"rev | rev | rev | rev | rev | rev | rev | range b a", "first 0"},
		{"rev | with a | rev | with ab | rev | from a | rev | under b", "range a b | with ab"},
		{"with a | with ab | with abc | rev | rev | rev | rev | from a", "from a | with abc"},
	}
	for _, test := range tests {
		if got, ok := impl.BestQuery(test.s); !ok || got != test.want {
			t.Errorf("BestQuery(%q) = %q, %v, want %q", test.s, got, ok, test.want)
		}
	}
}

// TestP72TheBestQueryCostsNoMore counts what queries and the best of them look at.
func TestP72TheBestQueryCostsNoMore(t *testing.T) {
	stores := manyStores()
	less, more := 0, 0
	manyQueries(func(s string) {
		best, _ := impl.BestQuery(s)
		for _, list := range stores {
			was, is := impl.CostQuery(s, list), impl.CostQuery(best, list)
			switch {
			case was < 0 || is < 0:
				t.Errorf("CostQuery(%q, %s) = %d, and of %q it is %d", s, pairText(list), was, best, is)
			case is < was:
				less++
			case is > was && strings.Contains(s, "first"):
				more++
			case is > was:
				t.Errorf("CostQuery(%q, %s) = %d, but of %q it is %d", s, pairText(list), was, best, is)
			}
		}
	})
	if less < 1000 || more == 0 {
		t.Errorf("only %d times the best query costs less, and %d times more, as it has first", less, more)
	}
}

// TestP72Examples checks what queries written out look at.
func TestP72Examples(t *testing.T) {
	list := pairList("a=x aa=y ab= b=z ba= c=w")
	tests := []struct {
		s    string
		want int
	}{
		{"", 0},
		{"range a b", 0}, {"range b a", 0}, {"from b", 0}, {"under b", 0}, {"first 0", 0}, {"first 3", 0}, {"first 24", 0},
		{"with a", 6}, {"with z", 6}, {"rev", 6},
		{"rev | rev", 12},
		{"with a | rev", 9},
		{"with z | rev", 6},
		{"rev | with a", 12},
		{"range a b | rev", 3},
		{"rev | range a b", 12},
		{"from b | under c", 3},
		{"under c | from b", 5},
		{"first 4 | from aa", 4},
		{"first 4 | from aa | with b", 7},
		{"first 4 | with a", 4},
		{"first 0 | rev | rev | rev", 0},
		{"range b b | with a | from a", 0},
		{"rev | first 0 | rev", 12},
		{"from aa | first 2 | rev | with a | first 1 | under z", 5 + 2 + 2 + 2 + 1},
	}
	for _, test := range tests {
		if got := impl.CostQuery(test.s, list); got != test.want {
			t.Errorf("CostQuery(%q) = %d, want %d", test.s, got, test.want)
		}
		if got := impl.CostQuery(test.s, nil); got != 0 {
			t.Errorf("CostQuery(%q) of no pairs = %d", test.s, got)
		}
	}
}

// checkJoin compares JoinPairs with the document.
func checkJoin(t *testing.T, a, b []impl.Pair) []impl.Pair {
	t.Helper()
	got := impl.JoinPairs(a, b)
	if want := joinModel(a, b); !slices.Equal(got, want) || !impl.ValidPairs(got) {
		t.Fatalf("JoinPairs(%s, %s) = %s, want %s", pairText(a), pairText(b), pairText(got), pairText(want))
	}
	return got
}

// keysOf returns the keys of pairs.
func keysOf(list []impl.Pair) []string {
	var keys []string
	for _, p := range list {
		keys = append(keys, p.Key)
	}
	return keys
}

// TestP73JoinedPairsAreInBoth joins stores with others, and with those without
// values.
func TestP73JoinedPairsAreInBoth(t *testing.T) {
	stores := append(fewStores("a", "ab", "b"), walkedStores(60)...)
	stores = append(stores, manyStores()...)
	tooLong := 0
	for _, a := range stores {
		for _, b := range stores {
			var bare []impl.Pair
			for _, p := range b {
				bare = append(bare, impl.Pair{Key: p.Key})
			}
			both := slices.DeleteFunc(keysOf(a), func(key string) bool { return !slices.Contains(keysOf(b), key) })
			got := keysOf(checkJoin(t, a, b))
			if slices.ContainsFunc(got, func(key string) bool { return !slices.Contains(both, key) }) {
				t.Errorf("JoinPairs(%s, %s) has the keys %q", pairText(a), pairText(b), got)
			}
			tooLong += len(both) - len(got)
			if right, left := keysOf(checkJoin(t, a, bare)), keysOf(checkJoin(t, bare, a)); !slices.Equal(right, both) || !slices.Equal(left, both) {
				t.Errorf("%s and %s without values have the keys %q and %q, want %q", pairText(a), pairText(bare), right, left, both)
			}
		}
	}
	if tooLong < 1000 {
		t.Errorf("only %d values are too long", tooLong)
	}
}

// TestP73Examples joins stores written out.
func TestP73Examples(t *testing.T) {
	tests := []struct{ a, b, want string }{
		{"", "", ""},
		{"a=x", "", ""},
		{"", "a=x", ""},
		{"a=x", "a=y", "a=xy"},
		{"a=y", "a=x", "a=yx"},
		{"a=", "a=", "a="},
		{"a=x", "b=y", ""},
		{"a=x", "aa=y", ""},
		{"a=wx", "a=yz", "a=wxyz"},
		{"a=wxyz", "a=", "a=wxyz"},
		{"a=", "a=wxyz", "a=wxyz"},
		{"a=wxyz", "a=v", ""},
		{"a=v", "a=wxyz", ""},
		{"a=wxy", "a=yz", ""},
		{"a=wxyz", "a=wxyz", ""},
		{"a=x ab=y b=z ba=w c=v", "ab=q b=wxyz d=", "ab=yq"},
		{"a= b= c= d=", "b=x d=y e=z", "b=x d=y"},
		{"b=x d=y", "a= b= c= d=", "b=x d=y"},
		{"a=x b=wxyz c=z", "a=p b=q c=r", "a=xp c=zr"},
	}
	for _, test := range tests {
		if got := pairText(impl.JoinPairs(pairList(test.a), pairList(test.b))); got != test.want {
			t.Errorf("JoinPairs(%s, %s) = %s, want %s", test.a, test.b, got, test.want)
		}
	}
	if got := impl.JoinPairs(rising(24), rising(24)); len(got) != 15 {
		t.Errorf("JoinPairs of 24 pairs with themselves = %s", pairText(got))
	}
}

// TestQueriesAreFresh checks that results share no memory with arguments, nor
// with each other, and that arguments stay, with what is behind them.
func TestQueriesAreFresh(t *testing.T) {
	stores := manyStores()
	for i, s := range walkedQueries(2000) {
		a, b := roomy(stores[i%len(stores)]), roomy(stores[i/7%len(stores)])
		wasA, wasB := slices.Clone(a[:cap(a)]), slices.Clone(b[:cap(b)])
		var lists [][]impl.Pair
		var steps [][]impl.Step
		var rules [][]string
		for range 2 {
			list, _ := impl.RunQuery(s, a)
			read, _ := impl.ReadQuery(s)
			lists = append(lists, list, impl.JoinPairs(a, b), impl.JoinPairs(b, a))
			steps = append(steps, read)
			rules = append(rules, impl.RuleQuery(s))
			impl.CostQuery(s, b)
		}
		if !slices.Equal(a[:cap(a)], wasA) || !slices.Equal(b[:cap(b)], wasB) {
			t.Fatalf("%q: arguments are now %s and %s", s, pairText(a), pairText(b))
		}
		apart := pairsApart(append(lists, a, b))
		apart = listsApart(func(i int) impl.Step { return impl.Step{N: -i} }, steps...) && apart
		if !listsApart(strconv.Itoa, rules...) || !apart {
			t.Errorf("%q: results share memory", s)
		}
	}
}

// pairsApart reports whether no two of some pairs share memory, their
// spare capacity included. It writes over all of them.
func pairsApart(lists [][]impl.Pair) bool {
	return listsApart(func(i int) impl.Pair { return impl.Pair{Value: strconv.Itoa(i)} }, lists...)
}
