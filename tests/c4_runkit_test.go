package tests

import (
	"slices"
	"strconv"
	"strings"

	"loop.example/storeofkeys/impl"
)

// runOf reads a run written as cells with spaces between them; a - in place of
// the = is for what is gone.
func runOf(text string) []impl.Item {
	var run []impl.Item
	for _, cell := range strings.Fields(text) {
		at := strings.IndexAny(cell, "=-")
		run = append(run, impl.Item{Key: cell[:at], Value: cell[at+1:], Gone: cell[at] == '-'})
	}
	return run
}

// runText writes a run as runOf reads it.
func runText(run []impl.Item) string {
	var cells []string
	for _, item := range run {
		sign := "="
		if item.Gone {
			sign = "-"
		}
		cells = append(cells, item.Key+sign+item.Value)
	}
	return strings.Join(cells, " ")
}

// levelsOf reads runs written with a bar between two of them, "" for none.
func levelsOf(text string) [][]impl.Item {
	if text == "" {
		return nil
	}
	var levels [][]impl.Item
	for _, run := range strings.Split(text, "|") {
		levels = append(levels, runOf(run))
	}
	return levels
}

// levelsText writes runs as levelsOf reads them.
func levelsText(levels [][]impl.Item) string {
	var runs []string
	for _, run := range levels {
		runs = append(runs, runText(run))
	}
	return strings.Join(runs, " | ")
}

// sameLevels reports whether runs are the same.
func sameLevels(a, b [][]impl.Item) bool {
	return slices.EqualFunc(a, b, slices.Equal[[]impl.Item])
}

// copyLevels returns runs that share nothing with other ones.
func copyLevels(levels [][]impl.Item) [][]impl.Item {
	var fresh [][]impl.Item
	for _, run := range levels {
		fresh = append(fresh, append([]impl.Item(nil), run...))
	}
	return fresh
}

// longRun returns a run of so many items, from the number first on: their keys
// are aa, ab and so on, and each one has the value, or is gone if this is -.
func longRun(first, size int, value string) []impl.Item {
	var run []impl.Item
	for i := first; i < first+size; i++ {
		item := impl.Item{Key: string(rune('a'+i/26)) + string(rune('a'+i%26)), Value: value}
		if value == "-" {
			item.Value, item.Gone = "", true
		}
		run = append(run, item)
	}
	return run
}

// wholeRun tells by the document what a run is.
func wholeRun(run []impl.Item) bool {
	if len(run) > 40 {
		return false
	}
	for i, item := range run {
		if !wholeKey(item.Key) || !wholeCell("a="+item.Value) || item.Gone && item.Value != "" {
			return false
		}
		for _, other := range run[:i] {
			if other.Key >= item.Key {
				return false
			}
		}
	}
	return true
}

// wholeLevels tells by the document what levels are.
func wholeLevels(levels [][]impl.Item) bool {
	for _, run := range levels {
		if len(run) == 0 || !wholeRun(run) {
			return false
		}
	}
	return len(levels) <= 6
}

// newestItems returns for each key of some runs, the newest one first, the item
// of the newest run that has it, without those gone if last holds.
func newestItems(last bool, runs ...[]impl.Item) []impl.Item {
	newest := map[string]impl.Item{}
	for _, run := range slices.Backward(runs) {
		for _, item := range run {
			newest[item.Key] = item
		}
	}
	var items []impl.Item
	for _, item := range newest {
		if !last || !item.Gone {
			items = append(items, item)
		}
	}
	slices.SortFunc(items, func(a, b impl.Item) int { return strings.Compare(a.Key, b.Key) })
	return items
}

// newestPairs returns the pairs of some runs, the newest one first.
func newestPairs(runs ...[]impl.Item) []impl.Pair {
	var list []impl.Pair
	for _, item := range newestItems(true, runs...) {
		list = append(list, impl.Pair{Key: item.Key, Value: item.Value})
	}
	return list
}

// marksModel tells the marks of a key by its numbers as sums of powers of 31,
// which take their rest by 997 but once.
func marksModel(key string) int {
	marks := 0
	for _, way := range []int{1, 5} {
		sum, power := 0, 1
		for i := len(key) - 1; i >= 0; i-- {
			sum += (strings.IndexByte("abcdefghijklmnopqrstuvwxyz", key[i]) + way) * power
			power *= 31
		}
		marks |= 1 << ((sum + way*power) % 997 % 24)
	}
	return marks
}

// sieveModel tells the marks of all keys of a run.
func sieveModel(run []impl.Item) int {
	sieve := 0
	for _, item := range run {
		sieve |= marksModel(item.Key)
	}
	return sieve
}

// findModel tells where a key is in a run, and the looks, by the items left.
func findModel(run []impl.Item, key string) (int, int) {
	var left []int
	for i := range run {
		left = append(left, i)
	}
	for looks := 0; ; looks++ {
		if len(left) == 0 {
			return -1, looks
		}
		half := len(left) / 2
		middle := left[half]
		if run[middle].Key == key {
			return middle, looks + 1
		}
		if run[middle].Key < key {
			left = left[half+1:]
		} else {
			left = left[:half]
		}
	}
}

// getModel tells the value of a key in levels, and the looks.
func getModel(levels [][]impl.Item, key string) (string, int, bool) {
	marks, all := marksModel(key), 0
	for _, run := range levels {
		if marks&^sieveModel(run) != 0 {
			continue
		}
		at, looks := findModel(run, key)
		all += looks
		if at < 0 {
			continue
		}
		if run[at].Gone {
			return "", all, false
		}
		return run[at].Value, all, true
	}
	return "", all, false
}

// pushModel tells the levels with a run pushed: all of them stand in one list,
// the front of which becomes shorter.
func pushModel(levels [][]impl.Item, run []impl.Item) ([][]impl.Item, bool) {
	list := append([][]impl.Item{run}, levels...)
	for len(list) > 1 && 2*len(list[0]) > len(list[1]) {
		both := newestItems(len(list) == 2, list[0], list[1])
		list = append([][]impl.Item{both}, list[2:]...)
	}
	if len(list) == 1 {
		list[0] = newestItems(true, list[0])
	}
	if len(list[0]) == 0 {
		list = list[1:]
	}
	for _, run := range list {
		if len(run) > 40 {
			return nil, false
		}
	}
	if len(list) > 6 {
		return nil, false
	}
	return list, true
}

// eachRun calls f with every run of some keys: each one is not there, gone, or
// has one of the values.
func eachRun(keys []string, values []string, f func(run []impl.Item)) {
	var run []impl.Item
	var more func(i int)
	more = func(i int) {
		if i == len(keys) {
			f(slices.Clone(run))
			return
		}
		more(i + 1)
		run = append(run, impl.Item{Key: keys[i], Gone: true})
		more(i + 1)
		for _, value := range values {
			run[len(run)-1] = impl.Item{Key: keys[i], Value: value}
			more(i + 1)
		}
		run = run[:len(run)-1]
	}
	more(0)
}

// someRun returns a run of so many of the keys of longRun, up to the number
// last, of which one in three is gone.
func someRun(next func(int) int, size, last int) []impl.Item {
	run := longRun(0, last, "")
	for len(run) > size {
		at := next(len(run))
		run = slices.Delete(run, at, at+1)
	}
	for i := range run {
		run[i].Value = word(next, next(5))
		if next(3) == 0 {
			run[i].Gone, run[i].Value = true, ""
		}
	}
	return run
}

// walkedLevels returns levels of runs of many sizes, whose keys are few, so
// that many are in more than one run, or many.
func walkedLevels(count int) [][][]impl.Item {
	seed := uint32(41)
	next := func(n int) int {
		seed = seed*1664525 + 1013904223
		return int(seed>>16) % n
	}
	var all [][][]impl.Item
	for range count {
		var levels [][]impl.Item
		last := 40 + 40*next(3)
		size := 1
		for range next(7) {
			size = min(40, size+next(size+2))
			levels = append(levels, someRun(next, size, last))
		}
		if next(4) == 0 {
			slices.Reverse(levels)
		}
		all = append(all, levels)
	}
	return all
}

// manyLevels calls f with all levels on which the promises are tried.
func manyLevels(f func(levels [][]impl.Item)) {
	var runs [][]impl.Item
	eachRun([]string{"a", "b", "y"}, []string{"x"}, func(run []impl.Item) {
		if len(run) > 0 {
			runs = append(runs, run)
		}
	})
	f(nil)
	for _, first := range runs {
		f([][]impl.Item{first})
		for _, second := range runs {
			f([][]impl.Item{first, second})
			for _, third := range runs {
				f([][]impl.Item{first, second, third})
			}
		}
	}
	for _, levels := range walkedLevels(600) {
		f(levels)
	}
}

// keysNear returns the keys of levels, and a key behind each, and some others.
func keysNear(levels [][]impl.Item) []string {
	keys := []string{"a", "b", "i", "y", "zzz"}
	for _, run := range levels {
		for _, item := range run {
			keys = append(keys, item.Key, (item.Key + "aa")[:3])
		}
	}
	slices.Sort(keys)
	return slices.Compact(keys)
}

// wrongRuns returns items that are no run, each for one reason.
func wrongRuns() [][]impl.Item {
	wrong := [][]impl.Item{longRun(0, 41, "x"), longRun(0, 80, "-"), make([]impl.Item, 100000)}
	for _, text := range []string{
		"a= a=", "a=x a-", "a- a=x", "a- a-", "b= a=", "b- a-", "aa= a=", "b= ab=", "a= c= b= d=", "a= b= c= a=", "a= b= b= c=",
		"=", "-", "=x", "= a=", "- a-", "abcd=", "abcd-", "a= b= cdef=", "A=", "a= B=", "B= a=", "a1=", "a- b- {-",
		"a=vwxyz", "a= b=X", "a=x=", "a= b= c=12", "a-x", "a= b-y", "a-x b= c=", "a-vwxyz",
	} {
		wrong = append(wrong, runOf(text))
	}
	for _, key := range notKeys {
		wrong = append(wrong, []impl.Item{{Key: key}}, []impl.Item{{Key: key, Gone: true}}, []impl.Item{{Key: key, Value: "x"}})
	}
	for _, value := range notValues {
		wrong = append(wrong, []impl.Item{{Key: "a", Value: value}}, []impl.Item{{Key: "a", Value: value, Gone: true}})
	}
	return wrong
}

// wrongLevels returns runs that are no levels, each for one reason.
func wrongLevels() [][][]impl.Item {
	wrong := [][][]impl.Item{
		{{}}, {nil}, {nil, nil}, {nil, runOf("a=")}, {runOf("a="), nil}, {runOf("a="), {}, runOf("b=")},
		{runOf("a="), runOf("a="), runOf("a="), runOf("a="), runOf("a="), nil},
		slices.Repeat([][]impl.Item{runOf("a=")}, 7),
		levelsOf("a= | b= | c= | d= | e= | f= | g="),
		make([][]impl.Item, 7),
		slices.Repeat([][]impl.Item{runOf("a=x b-")}, 100000),
	}
	for _, run := range wrongRuns() {
		wrong = append(wrong, [][]impl.Item{run}, [][]impl.Item{run, runOf("a= b- y=x")}, [][]impl.Item{runOf("a= b- y=x"), run}, [][]impl.Item{runOf("a="), runOf("a="), run, runOf("b-"), runOf("b-"), runOf("b-")})
	}
	return wrong
}

// runsApart reports whether no two of some runs share memory, their spare
// capacity included. It writes over all of them.
func runsApart(runs ...[]impl.Item) bool {
	return listsApart(func(i int) impl.Item { return impl.Item{Key: strconv.Itoa(i)} }, runs...)
}

// listsApart reports whether no two of some lists share memory, their spare
// capacity included. It writes over all of them, into each one its own mark.
func listsApart[T comparable](mark func(i int) T, lists ...[]T) bool {
	for i, list := range lists {
		list = list[:cap(list)]
		for j := range list {
			list[j] = mark(i)
		}
	}
	for i, list := range lists {
		if slices.ContainsFunc(list[:cap(list)], func(element T) bool { return element != mark(i) }) {
			return false
		}
	}
	return true
}

// outerApart reports the same of lists of lists, but of their own memory alone.
func outerApart[T any](lists ...[][]T) bool {
	for i, list := range lists {
		list = list[:cap(list)]
		for at := range list {
			list[at] = make([]T, i)
		}
	}
	for i, list := range lists {
		if slices.ContainsFunc(list[:cap(list)], func(inner []T) bool { return len(inner) != i }) {
			return false
		}
	}
	return true
}
