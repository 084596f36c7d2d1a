package tests

import (
	"slices"
	"strconv"
	"strings"

	"loop.example/storeofkeys/impl"
)

// flat is a tree level by level: the pairs of its nodes without kids, and for
// each level above them how many kids each node has, the first node last.
type flat struct {
	leaves [][]impl.Pair
	counts [][]int
}

// shape is how many pairs, or kids, the nodes have: level by level as in flat.
type shape [][]int

// flatOf returns the levels of a valid tree.
func flatOf(t impl.Node) flat {
	var f flat
	level := []impl.Node{t}
	for len(level[0].Kids) > 0 {
		var counts []int
		var next []impl.Node
		for _, n := range level {
			counts = append(counts, len(n.Kids))
			next = append(next, n.Kids...)
		}
		f.counts = slices.Insert(f.counts, 0, counts)
		level = next
	}
	for _, n := range level {
		f.leaves = append(f.leaves, slices.Clone(n.Pairs))
	}
	return f
}

// tree returns the tree that has the levels.
func (f flat) tree() impl.Node {
	var level []impl.Node
	for _, leaf := range f.leaves {
		level = append(level, impl.Node{Pairs: slices.Clone(leaf)})
	}
	for _, counts := range f.counts {
		var above []impl.Node
		for _, n := range counts {
			above = append(above, impl.Node{Kids: slices.Clone(level[:n])})
			level = level[n:]
		}
		level = above
	}
	return level[0]
}

// kidAt returns the node above a node of the level below, and which of its kids it is.
func kidAt(counts []int, i int) (int, int) {
	for g, n := range counts {
		if i < n {
			return g, i
		}
		i -= n
	}
	panic("no such node")
}

// grow puts a node more below the node above the one at i, on all levels from some one on.
func (f *flat) grow(level, i int) {
	if level == len(f.counts) {
		f.counts = append(f.counts, []int{2})
		return
	}
	g, _ := kidAt(f.counts[level], i)
	f.counts[level][g]++
	if f.counts[level][g] == 5 {
		f.counts[level][g] = 3
		f.counts[level] = slices.Insert(f.counts[level], g+1, 2)
		f.grow(level+1, g)
	}
}

// shrink takes a node from below the one above the node at i, on all levels from some one on.
func (f *flat) shrink(level, i int) {
	counts := f.counts[level]
	g, _ := kidAt(counts, i)
	counts[g]--
	if level == len(f.counts)-1 {
		if counts[0] == 1 {
			f.counts = f.counts[:level]
		}
		return
	}
	if counts[g] >= 2 {
		return
	}
	_, place := kidAt(f.counts[level+1], g)
	ahead := g - 1
	if place == 0 {
		ahead = g
	}
	switch sum := counts[ahead] + counts[ahead+1]; sum {
	case 5:
		counts[ahead], counts[ahead+1] = 3, 2
	default:
		f.counts[level] = slices.Delete(counts, ahead, ahead+1)
		f.counts[level][ahead] = sum
		f.shrink(level+1, ahead+1)
	}
}

// leafFor returns the last node without kids whose first key is at most a key, or the first one.
func (f *flat) leafFor(key string) int {
	for i := len(f.leaves) - 1; i > 0; i-- {
		if f.leaves[i][0].Key <= key {
			return i
		}
	}
	return 0
}

// behindPutTree returns by the document the tree with a pair.
func behindPutTree(t impl.Node, key, value string) (impl.Node, bool) {
	f := flatOf(t)
	i := f.leafFor(key)
	at := 0
	for at < len(f.leaves[i]) && f.leaves[i][at].Key < key {
		at++
	}
	if at < len(f.leaves[i]) && f.leaves[i][at].Key == key {
		f.leaves[i][at].Value = value
		return f.tree(), true
	}
	if len(slices.Concat(f.leaves...)) == 24 {
		return impl.Node{}, false
	}
	f.leaves[i] = slices.Insert(f.leaves[i], at, impl.Pair{Key: key, Value: value})
	if leaf := f.leaves[i]; len(leaf) == 5 {
		f.leaves = slices.Replace(f.leaves, i, i+1, leaf[:3], leaf[3:])
		f.grow(0, i)
	}
	return f.tree(), true
}

// behindDropTree returns by the document the tree without a key.
func behindDropTree(t impl.Node, key string) (impl.Node, bool) {
	f := flatOf(t)
	i := f.leafFor(key)
	at := slices.IndexFunc(f.leaves[i], func(p impl.Pair) bool { return p.Key == key })
	if at < 0 {
		return impl.Node{}, false
	}
	f.leaves[i] = slices.Delete(f.leaves[i], at, at+1)
	if len(f.leaves) == 1 || len(f.leaves[i]) >= 2 {
		return f.tree(), true
	}
	_, place := kidAt(f.counts[0], i)
	ahead := i - 1
	if place == 0 {
		ahead = i
	}
	both := slices.Concat(f.leaves[ahead], f.leaves[ahead+1])
	if len(both) == 5 {
		f.leaves[ahead], f.leaves[ahead+1] = both[:3], both[3:]
		return f.tree(), true
	}
	f.leaves = slices.Replace(f.leaves, ahead, ahead+2, both)
	f.shrink(0, ahead+1)
	return f.tree(), true
}

// wholePairs tells by the document what the pairs of a store are.
func wholePairs(list []impl.Pair) bool {
	for i, p := range list {
		if i > 23 || !wholeCell(p.Key+"="+p.Value) || !wholeKey(p.Key) || i > 0 && list[i-1].Key >= p.Key {
			return false
		}
	}
	return true
}

// wholeDepth tells by the document how many levels a valid tree has, -1 for others.
func wholeDepth(t impl.Node) int {
	level := []impl.Node{t}
	for depth := 1; depth <= 5; depth++ {
		least, ends := min(2*(depth-1), 2), 0
		var next []impl.Node
		var list []impl.Pair
		for _, n := range level {
			switch {
			case len(n.Kids) == 0 && len(n.Pairs) >= least && len(n.Pairs) <= 4:
				ends++
			case len(n.Pairs) > 0 || len(n.Kids) < 2 || len(n.Kids) > 4:
				return -1
			}
			next = append(next, n.Kids...)
			list = append(list, n.Pairs...)
		}
		if ends == len(level) && wholePairs(list) {
			return depth
		}
		if ends > 0 {
			return -1
		}
		level = next
	}
	return -1
}

// sameTree reports whether two trees are the same.
func sameTree(a, b impl.Node) bool {
	return slices.Equal(a.Pairs, b.Pairs) && slices.EqualFunc(a.Kids, b.Kids, sameTree)
}

// copyTree returns a tree that shares nothing with another one.
func copyTree(t impl.Node) impl.Node {
	fresh := impl.Node{Pairs: append([]impl.Pair(nil), t.Pairs...)}
	for _, kid := range t.Kids {
		fresh.Kids = append(fresh.Kids, copyTree(kid))
	}
	return fresh
}

// pairsIn returns the pairs of a tree, from the left on.
func pairsIn(t impl.Node) []impl.Pair {
	list := slices.Clone(t.Pairs)
	for _, kid := range t.Kids {
		list = append(list, pairsIn(kid)...)
	}
	return list
}

// shapeOf writes how many pairs, or kids, the nodes of a valid tree have, from
// the last level up: "3 2/2" is a first node with kids of 3 and 2 pairs.
func shapeOf(t impl.Node) string {
	f := flatOf(t)
	var sizes []int
	for _, leaf := range f.leaves {
		sizes = append(sizes, len(leaf))
	}
	var levels []string
	for _, counts := range append([][]int{sizes}, f.counts...) {
		var words []string
		for _, n := range counts {
			words = append(words, strconv.Itoa(n))
		}
		levels = append(levels, strings.Join(words, " "))
	}
	return strings.Join(levels, "/")
}

// rising returns so many pairs, the keys b, c, d and so on.
func rising(n int) []impl.Pair {
	var list []impl.Pair
	for i := range n {
		key := string(rune('b' + i))
		list = append(list, impl.Pair{Key: key, Value: strings.Repeat(key, i%5)})
	}
	return list
}

// keysBetween returns the keys of rising(24), and one between two of them, ahead, and behind.
func keysBetween() []string {
	keys := []string{"a", "az"}
	for _, p := range rising(24) {
		keys = append(keys, p.Key, p.Key+"m")
	}
	return append(keys, "z", "zzz")
}

// treeFrom returns the tree of a shape, with the pairs of rising.
func treeFrom(s shape) impl.Node {
	f := flat{counts: s[1:]}
	all := rising(total(s))
	for _, n := range s[0] {
		f.leaves = append(f.leaves, all[:n])
		all = all[n:]
	}
	return f.tree()
}

// drawn returns the tree of a shape written as by shapeOf.
func drawn(text string) impl.Node {
	var s shape
	for _, level := range strings.Split(text, "/") {
		var counts []int
		for _, word := range strings.Fields(level) {
			n, _ := strconv.Atoi(word)
			counts = append(counts, n)
		}
		s = append(s, counts)
	}
	return treeFrom(s)
}

// total returns how many pairs a shape has.
func total(s shape) int {
	sum := 0
	for _, n := range s[0] {
		sum += n
	}
	return sum
}

// above returns the shape of a node whose kids have some shapes.
func above(kids ...shape) shape {
	var s shape
	for level := range kids[0] {
		var counts []int
		for _, kid := range kids {
			counts = append(counts, kid[level]...)
		}
		s = append(s, counts)
	}
	return append(s, []int{len(kids)})
}

// lowShapes returns all shapes of two levels.
func lowShapes() []shape {
	var shapes []shape
	var kids []shape
	var more func()
	more = func() {
		if len(kids) >= 2 {
			shapes = append(shapes, above(kids...))
		}
		if len(kids) == 4 {
			return
		}
		for n := 2; n <= 4; n++ {
			kids = append(kids, shape{{n}})
			more()
			kids = kids[:len(kids)-1]
		}
	}
	more()
	return shapes
}

// highShapes returns shapes of three levels and of four, of at most 24 pairs.
func highShapes() []shape {
	seed := uint32(23)
	next := func(n int) int {
		seed = seed*1664525 + 1013904223
		return int(seed>>16) % n
	}
	low := lowShapes()
	slices.SortStableFunc(low, func(a, b shape) int { return total(a) - total(b) })
	var shapes []shape
	keep := func(s shape) {
		if total(s) <= 24 {
			shapes = append(shapes, s)
		}
	}
	for range 200 {
		keep(above(low[next(117)], low[next(90)]))
		keep(above(low[next(30)], low[next(30)], low[next(30)]))
		keep(above(low[next(9)], low[next(9)], low[next(9)], low[next(9)]))
		left, right := above(low[next(9)], low[next(9)]), above(low[next(9)], low[next(9)])
		keep(above(left, right))
		keep(above(left, above(low[0], low[next(5)], low[0])))
		keep(above(above(low[0], low[0]), above(low[0], low[0]), above(low[0], low[0])))
	}
	return shapes
}

// manyTrees calls f with all trees on which the promises are tried.
func manyTrees(f func(t impl.Node)) {
	for n := range 5 {
		f(treeFrom(shape{{n}}))
	}
	for _, s := range slices.Concat(lowShapes(), highShapes()) {
		if total(s) <= 24 {
			f(treeFrom(s))
		}
	}
}

// wrongTrees returns trees that are not valid, each for one reason.
func wrongTrees() map[string]impl.Node {
	two, five := drawn("2"), drawn("5")
	over := func(kids ...impl.Node) impl.Node { return impl.Node{Kids: kids} }
	with := func(pairs ...impl.Pair) impl.Node { return impl.Node{Pairs: pairs} }
	other := with(impl.Pair{Key: "x"}, impl.Pair{Key: "y"})
	twice := over(two, other)
	twice.Pairs = []impl.Pair{{Key: "a"}}
	deep := over(over(two, other), over(two, other))
	deep.Kids[1].Pairs = []impl.Pair{{Key: "s"}, {Key: "t"}}
	turning := make([]impl.Node, 2)
	turning[0], turning[1] = over(turning...), over(turning...)
	wide := over(slices.Repeat([]impl.Node{two}, 100000)...)
	tall := two
	for range 300000 {
		tall = over(tall, two)
	}
	straight := two
	for range 300000 {
		straight = over(straight)
	}
	return map[string]impl.Node{
		"one kid":                          over(two),
		"one kid without pairs":            over(impl.Node{}),
		"two kids without pairs":           over(impl.Node{}, impl.Node{}),
		"five pairs":                       five,
		"five kids":                        drawn("2 2 2 2 2/5"),
		"a kid of one pair":                drawn("2 1/2"),
		"a first kid of one pair":          drawn("1 2/2"),
		"a kid of five pairs":              drawn("2 5/2"),
		"a third kid of one pair":          drawn("2 2 1/3"),
		"a fourth kid of five pairs":       drawn("2 2 2 5/4"),
		"a kid of one kid":                 drawn("2 2 2/2 1/2"),
		"a kid of five kids":               drawn("2 2 2 2 2 2 2/2 5/2"),
		"kids and pairs":                   twice,
		"a kid with kids and pairs":        deep,
		"the second kid one level deeper":  over(two, over(other, with(impl.Pair{Key: "ya"}, impl.Pair{Key: "yb"}))),
		"the first kid one level deeper":   over(drawn("2 2/2"), other),
		"the third kid one level deeper":   over(two, with(impl.Pair{Key: "d"}, impl.Pair{Key: "e"}), over(other, with(impl.Pair{Key: "ya"}, impl.Pair{Key: "yb"}))),
		"five levels, of 32 pairs":         drawn("2 2 2 2 2 2 2 2 2 2 2 2 2 2 2 2/2 2 2 2 2 2 2 2/2 2 2 2/2 2/2"),
		"25 pairs":                         drawn("4 4 4 4 3 3 3/4 3/2"),
		"the same key twice":               with(impl.Pair{Key: "a"}, impl.Pair{Key: "a"}),
		"keys that fall":                   with(impl.Pair{Key: "b"}, impl.Pair{Key: "a"}),
		"keys that fall from kid to kid":   over(other, two),
		"the same key in two kids":         over(two, with(two.Pairs[1], impl.Pair{Key: "x"})),
		"no key":                           with(impl.Pair{}),
		"a key of four letters":            with(impl.Pair{Key: "abcd"}),
		"a key of a large letter":          with(impl.Pair{Key: "A"}),
		"a key of a byte behind z":         with(impl.Pair{Key: "{"}),
		"a key ahead of a":                 with(impl.Pair{Key: "`"}),
		"a value of five letters":          with(impl.Pair{Key: "a", Value: "abcde"}),
		"a value with a space":             with(impl.Pair{Key: "a", Value: "a "}),
		"a value that is no text of ASCII": with(impl.Pair{Key: "a", Value: "\xc3\xa9"}),
		"kids in a ring":                   over(turning...),
		"too many kids":                    wide,
		"a deep tree to the left":          tall,
		"a deep tree of one kid each":      straight,
	}
}

// wrongPairs returns pairs that are not those of a store, each for one reason.
func wrongPairs() [][]impl.Pair {
	wrong := [][]impl.Pair{rising(25), rising(26), make([]impl.Pair, 1), make([]impl.Pair, 1000)}
	for _, text := range []string{"a= a=", "b= a=", "A=", "abcd=", "a=vwxyz", "=x", "a= b= c= d= f= e="} {
		wrong = append(wrong, pairList(text))
	}
	return wrong
}

// notBounds are texts that are neither keys nor empty.
var notBounds = []string{"A", "abcd", "a1", " ", "a ", "ab=", "\xc3\xa9", "{", "`", "a\x00", "aZa"}

// notKeys are texts that are no keys.
var notKeys = append([]string{""}, notBounds...)

// notValues are texts that are no values.
var notValues = []string{"abcde", "A", " ", "a=", "abc1", "\xc3\xa9", "{", "`", "\x00"}

// apart reports whether no two slices of some trees share memory, their spare
// capacity included. It writes over all of them.
func apart(trees ...impl.Node) bool {
	var pairs [][]impl.Pair
	var kids [][]impl.Node
	var collect func(t impl.Node)
	collect = func(t impl.Node) {
		pairs = append(pairs, t.Pairs[:cap(t.Pairs)])
		kids = append(kids, t.Kids[:cap(t.Kids)])
		for _, kid := range t.Kids {
			collect(kid)
		}
	}
	for _, t := range trees {
		collect(t)
	}
	mark := func(i int) impl.Pair { return impl.Pair{Key: strconv.Itoa(i)} }
	for i := range pairs {
		for j := range pairs[i] {
			pairs[i][j] = mark(i)
		}
		for j := range kids[i] {
			kids[i][j] = impl.Node{Pairs: []impl.Pair{mark(i)}}
		}
	}
	for i := range pairs {
		if slices.ContainsFunc(pairs[i], func(p impl.Pair) bool { return p != mark(i) }) {
			return false
		}
		if slices.ContainsFunc(kids[i], func(n impl.Node) bool { return n.Pairs[0] != mark(i) }) {
			return false
		}
	}
	return true
}
