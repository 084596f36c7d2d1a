package tests

import (
	"slices"
	"strings"
	"testing"

	"loop.example/storeofkeys/impl"
)

// pairList reads pairs written as cells with spaces between them.
func pairList(text string) []impl.Pair {
	var list []impl.Pair
	for _, cell := range strings.Fields(text) {
		key, value, _ := strings.Cut(cell, "=")
		list = append(list, impl.Pair{Key: key, Value: value})
	}
	return list
}

// pairText writes pairs as cells with spaces between them.
func pairText(list []impl.Pair) string {
	var cells []string
	for _, p := range list {
		cells = append(cells, p.Key+"="+p.Value)
	}
	return strings.Join(cells, " ")
}

// leavesText writes the pairs of a tree, with a bar between two nodes without kids.
func leavesText(t impl.Node) string {
	var leaves []string
	for _, leaf := range flatOf(t).leaves {
		leaves = append(leaves, pairText(leaf))
	}
	return strings.Join(leaves, " | ")
}

// TestP18PairsCanBeLeftOut cuts the pairs of a store, from both ends.
func TestP18PairsCanBeLeftOut(t *testing.T) {
	for n := range 25 {
		list := rising(n)
		for from := range n + 1 {
			if !impl.ValidPairs(list[:from]) || !impl.ValidPairs(list[from:]) {
				t.Errorf("pairs %d of %d are none of a store", from, n)
			}
		}
	}
}

// TestP18Examples checks pairs written out.
func TestP18Examples(t *testing.T) {
	tests := []struct {
		text string
		want bool
	}{
		{"", true},
		{"a=", true},
		{"a=wxyz", true},
		{"zzz=zzzz", true},
		{"a= aa= ab= b=", true},
		{"a=x aa=x aaa=x aab=x b=x", true},
		{"a= a=", false},
		{"a=x a=y", false},
		{"a= b= b=", false},
		{"b= a=", false},
		{"aa= a=", false},
		{"b= ab=", false},
		{"a= c= b= d=", false},
		{"a= b= c= a=", false},
		{"=x", false},
		{"= a=", false},
		{"abcd=", false},
		{"a= abcd=", false},
		{"a=vwxyz", false},
		{"a= b= c=vwxyz", false},
		{"A=", false},
		{"A= b=", false},
		{"a=X", false},
		{"a=x=", false},
		{"a1=", false},
		{"a=1", false},
	}
	for _, test := range tests {
		if got := impl.ValidPairs(pairList(test.text)); got != test.want {
			t.Errorf("ValidPairs(%q) = %v", test.text, got)
		}
	}
	if !impl.ValidPairs(nil) || !impl.ValidPairs([]impl.Pair{}) {
		t.Error("no pairs are none of a store")
	}
	if !impl.ValidPairs(rising(24)) || impl.ValidPairs(rising(25)) {
		t.Error("a store has up to 24 pairs")
	}
	if impl.ValidPairs(make([]impl.Pair, 100)) {
		t.Error("a hundred pairs without keys are those of a store")
	}
	for _, key := range notKeys {
		if impl.ValidPairs([]impl.Pair{{Key: key}}) {
			t.Errorf("%q is a key", key)
		}
	}
	for _, value := range notValues {
		if impl.ValidPairs([]impl.Pair{{Key: "a", Value: value}}) {
			t.Errorf("%q is a value", value)
		}
	}
}

// TestP19TreesHaveLevels checks the levels and the pairs of all trees.
func TestP19TreesHaveLevels(t *testing.T) {
	depths := map[int]int{}
	manyTrees(func(tree impl.Node) {
		list := impl.ListTree(tree)
		depth := impl.DepthOf(tree)
		if !impl.ValidTree(tree) || depth != wholeDepth(tree) || !slices.Equal(list, pairsIn(tree)) {
			t.Fatalf("%s: ValidTree is %v, DepthOf %d, ListTree %s", shapeOf(tree), impl.ValidTree(tree), depth, pairText(list))
		}
		if !impl.ValidPairs(list) {
			t.Errorf("%s: ListTree = %s", shapeOf(tree), pairText(list))
		}
		least, most := 0, 4
		for level := 2; level <= depth; level++ {
			least, most = max(2*least, 4), 4*most
		}
		if len(list) < least || len(list) > most {
			t.Errorf("%s: %d levels of %d pairs", shapeOf(tree), depth, len(list))
		}
		depths[depth]++
	})
	if depths[1] != 5 || depths[2] != 117 || depths[3] < 300 || depths[4] < 300 {
		t.Errorf("too few trees of some depth: %v", depths)
	}
}

// TestP19Examples checks the levels of trees written out.
func TestP19Examples(t *testing.T) {
	tests := []struct {
		shape string
		depth int
	}{
		{"0", 1}, {"1", 1}, {"2", 1}, {"3", 1}, {"4", 1},
		{"2 2/2", 2}, {"4 4/2", 2}, {"2 3 4/3", 2}, {"4 4 4 4/4", 2},
		{"2 2 2 2/2 2/2", 3}, {"4 4 4 4 2 2 2 2/4 4/2", 3}, {"2 2 2 2 2 2 2 2 2 2/4 2 4/3", 3}, {"2 2 2 2 2 2 2 2/2 2 2 2/4", 3},
		{"2 2 2 2 2 2 2 2/2 2 2 2/2 2/2", 4}, {"3 3 3 3 3 3 3 3/2 2 2 2/2 2/2", 4}, {"2 2 2 2 2 2 2 2 2 2 2 2/2 2 2 2 2 2/2 2 2/3", 4},
	}
	for _, test := range tests {
		tree := drawn(test.shape)
		if !impl.ValidTree(tree) || impl.DepthOf(tree) != test.depth {
			t.Errorf("%s: ValidTree is %v, DepthOf %d, want %d", test.shape, impl.ValidTree(tree), impl.DepthOf(tree), test.depth)
		}
	}
	empty := impl.Node{Pairs: []impl.Pair{}, Kids: []impl.Node{}}
	if !impl.ValidTree(empty) || impl.DepthOf(empty) != 1 || len(impl.ListTree(empty)) != 0 {
		t.Error("a node without pairs and kids is no tree")
	}
}

// TestWrongTrees checks every function on trees that are not valid.
func TestWrongTrees(t *testing.T) {
	for name, tree := range wrongTrees() {
		if impl.ValidTree(tree) {
			t.Errorf("%s: ValidTree", name)
		}
		if got := impl.ListTree(tree); len(got) != 0 {
			t.Errorf("%s: ListTree = %s", name, pairText(got))
		}
		if got := impl.DepthOf(tree); got != -1 {
			t.Errorf("%s: DepthOf = %d", name, got)
		}
		for _, key := range []string{"a", "b", "c", "x", ""} {
			if got, ok := impl.GetTree(tree, key); ok || got != "" {
				t.Errorf("%s: GetTree(%q) = %q, %v", name, key, got, ok)
			}
			if got, ok := impl.PutTree(tree, key, "v"); ok || !sameTree(got, impl.Node{}) {
				t.Errorf("%s: PutTree(%q)", name, key)
			}
			if got, ok := impl.DropTree(tree, key); ok || !sameTree(got, impl.Node{}) {
				t.Errorf("%s: DropTree(%q)", name, key)
			}
			if got, ok := impl.NextKey(tree, key); ok || got != "" {
				t.Errorf("%s: NextKey(%q) = %q, %v", name, key, got, ok)
			}
			if got := impl.RangeTree(tree, key, "zzz"); len(got) != 0 {
				t.Errorf("%s: RangeTree(%q) = %s", name, key, pairText(got))
			}
		}
	}
}

// TestP20TreesHaveWhatIsInThem finds each pair of all trees, and in those built of them.
func TestP20TreesHaveWhatIsInThem(t *testing.T) {
	manyTrees(func(tree impl.Node) {
		list := impl.ListTree(tree)
		built, ok := impl.BuildTree(list)
		if !ok {
			t.Fatalf("%s: no BuildTree", shapeOf(tree))
		}
		for _, p := range list {
			if got, ok := impl.GetTree(tree, p.Key); !ok || got != p.Value {
				t.Errorf("%s: GetTree(%q) = %q, %v", shapeOf(tree), p.Key, got, ok)
			}
			if got, ok := impl.GetTree(built, p.Key); !ok || got != p.Value {
				t.Errorf("%s: GetTree(%q) = %q, %v", shapeOf(built), p.Key, got, ok)
			}
		}
	})
}

// TestP21BuiltTreesAreNoHigher compares the depths of all trees with those of built ones.
func TestP21BuiltTreesAreNoHigher(t *testing.T) {
	lower := 0
	manyTrees(func(tree impl.Node) {
		built, _ := impl.BuildTree(impl.ListTree(tree))
		if impl.DepthOf(built) > impl.DepthOf(tree) {
			t.Errorf("%s: BuildTree has %d levels", shapeOf(tree), impl.DepthOf(built))
		}
		if impl.DepthOf(built) < impl.DepthOf(tree) {
			lower++
		}
	})
	if lower < 100 {
		t.Errorf("only %d trees are built lower", lower)
	}
}

// TestP22WhatIsFoundIsInTheList asks all trees for keys that are there, and for others.
func TestP22WhatIsFoundIsInTheList(t *testing.T) {
	manyTrees(func(tree impl.Node) {
		values := map[string]string{}
		for _, p := range pairsIn(tree) {
			values[p.Key] = p.Value
		}
		for _, key := range keysBetween() {
			want, there := values[key]
			if got, ok := impl.GetTree(tree, key); ok != there || got != want {
				t.Errorf("%s: GetTree(%q) = %q, %v", shapeOf(tree), key, got, ok)
			}
		}
	})
}

// TestP22NoKeys asks for texts that are no keys.
func TestP22NoKeys(t *testing.T) {
	for _, tree := range []impl.Node{{}, drawn("3"), drawn("3 2/2"), drawn("2 2 2 2/2 2/2")} {
		for _, key := range notKeys {
			if got, ok := impl.GetTree(tree, key); ok || got != "" {
				t.Errorf("%s: GetTree(%q) = %q, %v", shapeOf(tree), key, got, ok)
			}
			if got, ok := impl.DropTree(tree, key); ok || !sameTree(got, impl.Node{}) {
				t.Errorf("%s: DropTree(%q) = %v, %v", shapeOf(tree), key, got, ok)
			}
			if got, ok := impl.PutTree(tree, key, "v"); ok || !sameTree(got, impl.Node{}) {
				t.Errorf("%s: PutTree(%q) = %v, %v", shapeOf(tree), key, got, ok)
			}
		}
		for _, value := range notValues {
			for _, key := range []string{"a", "b", "z"} {
				if got, ok := impl.PutTree(tree, key, value); ok || !sameTree(got, impl.Node{}) {
					t.Errorf("%s: PutTree(%q, %q) = %v, %v", shapeOf(tree), key, value, got, ok)
				}
			}
		}
	}
}

// withPair returns pairs with one in place of that with its key, or one more.
func withPair(list []impl.Pair, p impl.Pair) []impl.Pair {
	list = append(withoutKey(list, p.Key), p)
	slices.SortFunc(list, func(a, b impl.Pair) int { return strings.Compare(a.Key, b.Key) })
	return list
}

// withoutKey returns pairs without that of a key.
func withoutKey(list []impl.Pair, key string) []impl.Pair {
	return slices.DeleteFunc(slices.Clone(list), func(p impl.Pair) bool { return p.Key == key })
}

// checkPut puts a pair into a tree as the document tells.
func checkPut(t *testing.T, tree impl.Node, key, value string) impl.Node {
	t.Helper()
	got, ok := impl.PutTree(tree, key, value)
	want, fine := behindPutTree(tree, key, value)
	if ok != fine || !sameTree(got, want) {
		t.Fatalf("%s: PutTree(%q) = %s, %v, want %s, %v", leavesText(tree), key, leavesText(got), ok, leavesText(want), fine)
	}
	if ok && (!impl.ValidTree(got) || !slices.Equal(pairsIn(got), withPair(pairsIn(tree), impl.Pair{Key: key, Value: value}))) {
		t.Errorf("%s: PutTree(%q) = %s", leavesText(tree), key, leavesText(got))
	}
	return got
}

// checkDrop drops a key from a tree as the document tells.
func checkDrop(t *testing.T, tree impl.Node, key string) impl.Node {
	t.Helper()
	got, ok := impl.DropTree(tree, key)
	want, fine := behindDropTree(tree, key)
	if ok != fine || !sameTree(got, want) {
		t.Fatalf("%s: DropTree(%q) = %s, %v, want %s, %v", leavesText(tree), key, leavesText(got), ok, leavesText(want), fine)
	}
	if ok && (!impl.ValidTree(got) || !slices.Equal(pairsIn(got), withoutKey(pairsIn(tree), key))) {
		t.Errorf("%s: DropTree(%q) = %s", leavesText(tree), key, leavesText(got))
	}
	return got
}

// TestPutTreeAnywhere puts each key, there or not, into all trees.
func TestPutTreeAnywhere(t *testing.T) {
	manyTrees(func(tree impl.Node) {
		for _, key := range keysBetween() {
			checkPut(t, tree, key, "new")
		}
	})
}

// TestDropTreeAnywhere drops each key, there or not, from all trees.
func TestDropTreeAnywhere(t *testing.T) {
	manyTrees(func(tree impl.Node) {
		for _, key := range keysBetween() {
			checkDrop(t, tree, key)
		}
	})
}

// TestTreesGrowAndShrink walks from no pairs up to many and back, again and again.
func TestTreesGrowAndShrink(t *testing.T) {
	seed := uint32(31)
	next := func(n int) int {
		seed = seed*1664525 + 1013904223
		return int(seed>>16) % n
	}
	var tree impl.Node
	seen := map[int]int{}
	for step := range 6000 {
		list := pairsIn(tree)
		growing := step/40%2 == 0
		if next(5) == 0 {
			growing = !growing
		}
		if growing && len(list) < 24 || len(list) == 0 {
			tree = checkPut(t, tree, word(next, 1+next(3)), word(next, next(5)))
		} else {
			tree = checkDrop(t, tree, list[next(len(list))].Key)
		}
		seen[impl.DepthOf(tree)]++
	}
	if seen[1] < 100 || seen[2] < 100 || seen[3] < 100 {
		t.Errorf("too few trees of some depth: %v", seen)
	}
}

// TestPutTreeExamples checks trees with a pair more, written out.
func TestPutTreeExamples(t *testing.T) {
	tests := []struct{ shape, key, want, leaves string }{
		{"0", "m", "1", "m=v"},
		{"1", "a", "2", "a=v b="},
		{"1", "b", "1", "b=v"},
		{"3", "z", "4", "b= c=c d=dd z=v"},
		{"4", "cm", "3 2/2", "b= c=c cm=v | d=dd e=eee"},
		{"4", "z", "3 2/2", "b= c=c d=dd | e=eee z=v"},
		{"4", "a", "3 2/2", "a=v b= c=c | d=dd e=eee"},
		{"4", "d", "4", "b= c=c d=v e=eee"},
		{"2 2/2", "a", "3 2/2", "a=v b= c=c | d=dd e=eee"},
		{"2 2/2", "cm", "3 2/2", "b= c=c cm=v | d=dd e=eee"},
		{"2 2/2", "d", "2 2/2", "b= c=c | d=v e=eee"},
		{"2 2/2", "dm", "2 3/2", "b= c=c | d=dd dm=v e=eee"},
		{"4 2/2", "em", "3 2 2/3", "b= c=c d=dd | e=eee em=v | f=ffff g="},
		{"2 4/2", "z", "2 3 2/3", "b= c=c | d=dd e=eee f=ffff | g= z=v"},
		{"4 2 2 2/4", "a", "3 2 2 2 2/3 2/2", "a=v b= c=c | d=dd e=eee | f=ffff g= | h=h i=ii | j=jjj k=kkkk"},
		{"2 2 2 4/4", "jm", "2 2 2 3 2/3 2/2", "b= c=c | d=dd e=eee | f=ffff g= | h=h i=ii j=jjj | jm=v k=kkkk"},
		{"2 2 2 4/2 2/2", "i", "2 2 2 4/2 2/2", "b= c=c | d=dd e=eee | f=ffff g= | h=h i=v j=jjj k=kkkk"},
		{"4 2 2 2 2 2/4 2/2", "a", "3 2 2 2 2 2 2/3 2 2/3", "a=v b= c=c | d=dd e=eee | f=ffff g= | h=h i=ii | j=jjj k=kkkk | l= m=m | n=nn o=ooo"},
	}
	for _, test := range tests {
		got, ok := impl.PutTree(drawn(test.shape), test.key, "v")
		if !ok || shapeOf(got) != test.want || leavesText(got) != test.leaves {
			t.Errorf("%s: PutTree(%q) = %s: %s, %v", test.shape, test.key, shapeOf(got), leavesText(got), ok)
		}
	}
}

// TestPutTreeOfManyPairs checks that a full tree takes no pair more, but another value.
func TestPutTreeOfManyPairs(t *testing.T) {
	for _, text := range []string{"4 4 4 4 4 4/4 2/2", "2 2 2 2 2 2 2 2 2 2 2 2/4 4 4/3", "3 3 3 3 3 3 3 3/2 2 2 2/2 2/2"} {
		tree := drawn(text)
		for _, p := range rising(24) {
			if got, ok := impl.PutTree(tree, p.Key, "v"); !ok || shapeOf(got) != text {
				t.Errorf("%s: PutTree(%q) = %v", text, p.Key, ok)
			}
			if got, ok := impl.PutTree(tree, p.Key+"a", "v"); ok || !sameTree(got, impl.Node{}) {
				t.Errorf("%s: PutTree(%q) = %v", text, p.Key+"a", ok)
			}
		}
	}
	tree := drawn("4 4 4 4 4 3/4 2/2")
	if got, ok := impl.PutTree(tree, "a", ""); !ok || len(pairsIn(got)) != 24 || !impl.ValidTree(got) {
		t.Errorf("PutTree of the last pair = %v", ok)
	}
}

// TestDropTreeExamples checks trees with a pair less, written out.
func TestDropTreeExamples(t *testing.T) {
	tests := []struct{ shape, key, want, leaves string }{
		{"1", "b", "0", ""},
		{"2", "c", "1", "b="},
		{"4", "b", "3", "c=c d=dd e=eee"},
		{"3 2/2", "b", "2 2/2", "c=c d=dd | e=eee f=ffff"},
		{"2 3/2", "d", "2 2/2", "b= c=c | e=eee f=ffff"},
		{"2 2/2", "c", "3", "b= d=dd e=eee"},
		{"2 2/2", "e", "3", "b= c=c d=dd"},
		{"2 3/2", "b", "4", "c=c d=dd e=eee f=ffff"},
		{"2 4/2", "b", "3 2/2", "c=c d=dd e=eee | f=ffff g="},
		{"4 2/2", "g", "3 2/2", "b= c=c d=dd | e=eee f=ffff"},
		{"2 2 4/3", "d", "3 4/2", "b= c=c e=eee | f=ffff g= h=h i=ii"},
		{"4 2 2/3", "f", "3 2 2/3", "b= c=c d=dd | e=eee g= | h=h i=ii"},
		{"2 2 2/3", "g", "2 3/2", "b= c=c | d=dd e=eee f=ffff"},
		{"2 2 2 2/2 2/2", "b", "3 2 2/3", "c=c d=dd e=eee | f=ffff g= | h=h i=ii"},
		{"2 2 2 2/2 2/2", "f", "2 2 3/3", "b= c=c | d=dd e=eee | g= h=h i=ii"},
		{"2 2 2 2 2 2/2 4/2", "b", "3 2 2 2 2/3 2/2", "c=c d=dd e=eee | f=ffff g= | h=h i=ii | j=jjj k=kkkk | l= m=m"},
		{"2 2 2 2 2 2/4 2/2", "m", "2 2 2 2 3/3 2/2", "b= c=c | d=dd e=eee | f=ffff g= | h=h i=ii | j=jjj k=kkkk l="},
		{"2 2 2 2 2 2/2 2 2/3", "g", "2 2 3 2 2/3 2/2", "b= c=c | d=dd e=eee | f=ffff h=h i=ii | j=jjj k=kkkk | l= m=m"},
	}
	for _, test := range tests {
		got, ok := impl.DropTree(drawn(test.shape), test.key)
		if !ok || shapeOf(got) != test.want || leavesText(got) != test.leaves {
			t.Errorf("%s: DropTree(%q) = %s: %s, %v", test.shape, test.key, shapeOf(got), leavesText(got), ok)
		}
	}
	four := drawn("2 2 2 2 2 2 2 2/2 2 2 2/2 2/2")
	for _, p := range rising(16) {
		if got, ok := impl.DropTree(four, p.Key); !ok || impl.DepthOf(got) != 3 || !impl.ValidTree(got) {
			t.Errorf("DropTree(%q) = %s, %v", p.Key, shapeOf(got), ok)
		}
	}
}

// TestRangeTree asks for the pairs between any two texts.
func TestRangeTree(t *testing.T) {
	bounds := append(keysBetween(), "", "bz", "e", "eee", "y", "yzz")
	for _, text := range []string{"0", "1", "4", "3 2/2", "2 2 2 2/2 2/2", "2 2 2 2 2 2 2 2 2 2 2 2/4 4 4/3"} {
		tree := drawn(text)
		for _, low := range bounds {
			for _, high := range bounds {
				want := slices.DeleteFunc(pairsIn(tree), func(p impl.Pair) bool { return p.Key < low || p.Key >= high })
				if got := impl.RangeTree(tree, low, high); !slices.Equal(got, want) {
					t.Errorf("%s: RangeTree(%q, %q) = %s, want %s", text, low, high, pairText(got), pairText(want))
				}
			}
		}
		for _, wrong := range notBounds {
			for _, bound := range []string{"", "a", "c", "zzz", wrong} {
				if len(impl.RangeTree(tree, wrong, bound)) != 0 || len(impl.RangeTree(tree, bound, wrong)) != 0 {
					t.Errorf("%s: RangeTree(%q, %q)", text, wrong, bound)
				}
			}
		}
	}
}

// TestRangeTreeExamples checks ranges written out.
func TestRangeTreeExamples(t *testing.T) {
	tree, _ := impl.BuildTree(pairList("a=x aa=y ab= b=z bz= c=w"))
	tests := []struct{ low, high, want string }{
		{"", "", ""},
		{"", "a", ""},
		{"", "aa", "a=x"},
		{"", "zzz", "a=x aa=y ab= b=z bz= c=w"},
		{"a", "b", "a=x aa=y ab="},
		{"ab", "c", "ab= b=z bz="},
		{"ac", "bzz", "b=z bz="},
		{"b", "b", ""},
		{"b", "ba", "b=z"},
		{"c", "a", ""},
		{"c", "ca", "c=w"},
		{"c", "", ""},
		{"d", "zzz", ""},
		{"a", "bbbb", ""},
		{"aaaa", "b", ""},
	}
	for _, test := range tests {
		if got := pairText(impl.RangeTree(tree, test.low, test.high)); got != test.want {
			t.Errorf("RangeTree(%q, %q) = %s, want %s", test.low, test.high, got, test.want)
		}
	}
}

// TestP26KeysComeOneAfterTheOther walks along the keys of all trees.
func TestP26KeysComeOneAfterTheOther(t *testing.T) {
	manyTrees(func(tree impl.Node) {
		key, ok := impl.NextKey(tree, "")
		for _, p := range impl.ListTree(tree) {
			if !ok || key != p.Key {
				t.Fatalf("%s: NextKey is %q, %v, want %q", shapeOf(tree), key, ok, p.Key)
			}
			key, ok = impl.NextKey(tree, key)
		}
		if ok || key != "" {
			t.Errorf("%s: NextKey of the last key is %q, %v", shapeOf(tree), key, ok)
		}
	})
}

// TestP26Examples asks for the next key of texts that are there, and of others.
func TestP26Examples(t *testing.T) {
	tree, _ := impl.BuildTree(pairList("a=x aa=y ab= b=z bz= c=w"))
	tests := []struct{ key, want string }{
		{"", "a"}, {"a", "aa"}, {"aa", "ab"}, {"aaz", "ab"}, {"ab", "b"}, {"aba", "b"}, {"azz", "b"}, {"b", "bz"}, {"ba", "bz"},
		{"bz", "c"}, {"bzz", "c"}, {"c", ""}, {"ca", ""}, {"zzz", ""},
	}
	for _, test := range tests {
		if got, ok := impl.NextKey(tree, test.key); got != test.want || ok != (test.want != "") {
			t.Errorf("NextKey(%q) = %q, %v, want %q", test.key, got, ok, test.want)
		}
	}
	for _, key := range notBounds {
		if got, ok := impl.NextKey(tree, key); ok || got != "" {
			t.Errorf("NextKey(%q) = %q, %v", key, got, ok)
		}
	}
	for _, key := range []string{"", "a", "zzz", "A"} {
		if got, ok := impl.NextKey(impl.Node{}, key); ok || got != "" {
			t.Errorf("NextKey(%q) of no pairs = %q, %v", key, got, ok)
		}
	}
}

// TestP27BuiltTreesHaveTheirPairs builds trees of any number of pairs.
func TestP27BuiltTreesHaveTheirPairs(t *testing.T) {
	shapes := []string{
		"0", "1", "2", "3", "4",
		"3 2/2", "4 2/2", "4 3/2", "4 4/2",
		"4 3 2/3", "4 4 2/3", "4 4 3/3", "4 4 4/3",
		"4 4 3 2/4", "4 4 4 2/4", "4 4 4 3/4", "4 4 4 4/4",
		"4 4 4 3 2/3 2/2", "4 4 4 4 2/3 2/2", "4 4 4 4 3/3 2/2", "4 4 4 4 4/3 2/2",
		"4 4 4 4 3 2/4 2/2", "4 4 4 4 4 2/4 2/2", "4 4 4 4 4 3/4 2/2", "4 4 4 4 4 4/4 2/2",
	}
	for n, want := range shapes {
		got, ok := impl.BuildTree(rising(n))
		if !ok || !sameTree(got, drawn(want)) {
			t.Errorf("BuildTree of %d pairs = %s, %v, want %s", n, shapeOf(got), ok, want)
		}
		if !impl.ValidTree(got) || !slices.Equal(impl.ListTree(got), rising(n)) {
			t.Errorf("BuildTree of %d pairs = %s", n, leavesText(got))
		}
	}
}

// TestP27WrongPairs builds no trees of other pairs.
func TestP27WrongPairs(t *testing.T) {
	for _, list := range wrongPairs() {
		if got, ok := impl.BuildTree(list); ok || !sameTree(got, impl.Node{}) {
			t.Errorf("BuildTree(%s) = %v, %v", pairText(list), got, ok)
		}
	}
}

// TestTreesAreFresh checks that results share no memory with arguments, nor within, and that these stay.
func TestTreesAreFresh(t *testing.T) {
	manyTrees(func(tree impl.Node) {
		var results []impl.Node
		kept := copyTree(tree)
		list := impl.ListTree(tree)
		keep := func(n impl.Node, ok bool) {
			if ok {
				results = append(results, n)
			}
		}
		for _, key := range []string{"am", "b", "d", "fm", "z"} {
			keep(impl.PutTree(tree, key, "new"))
			keep(impl.DropTree(tree, key))
		}
		keep(impl.BuildTree(list))
		results = append(results, impl.Node{Pairs: impl.RangeTree(tree, "", "zzz")}, impl.Node{Pairs: list}, tree)
		if !sameTree(tree, kept) {
			t.Fatalf("%s is now %s", shapeOf(kept), shapeOf(tree))
		}
		if !apart(results...) {
			t.Errorf("%s: results share memory", shapeOf(kept))
		}
	})
}

// TestSpareMemoryStays checks that nothing is written behind the pairs and kids of arguments.
func TestSpareMemoryStays(t *testing.T) {
	pairs := append(make([]impl.Pair, 0, 12), rising(8)...)
	kids := append(make([]impl.Node, 0, 12), impl.Node{Pairs: pairs[:4]}, impl.Node{Pairs: pairs[4:6]}, impl.Node{Pairs: pairs[6:8]})
	tree := impl.Node{Kids: kids[:2]}
	for _, key := range keysBetween() {
		impl.PutTree(tree, key, "new")
		impl.DropTree(tree, key)
	}
	impl.BuildTree(pairs[:5])
	if !slices.Equal(pairs, rising(8)) || !slices.Equal(pairs[8:12], make([]impl.Pair, 4)) {
		t.Errorf("the pairs are now %s", pairText(pairs[:12]))
	}
	if !sameTree(kids[2], impl.Node{Pairs: rising(8)[6:]}) || !sameTree(kids[:4][3], impl.Node{}) {
		t.Errorf("the kids are now %v", kids[:4])
	}
}
