package tests

import (
	"math"
	"slices"
	"strconv"
	"strings"

	"loop.example/storeofkeys/impl"
)

// versionsOf reads versions with a space between two of them: each one is its
// time, and a cell as runOf reads it.
func versionsOf(text string) []impl.Version {
	var list []impl.Version
	for _, word := range strings.Fields(text) {
		cell := strings.TrimLeft(word, "0123456789")
		at, _ := strconv.Atoi(word[:len(word)-len(cell)])
		list = append(list, versionsAt(runOf(cell), at)...)
	}
	return list
}

// versionsText writes versions as versionsOf reads them.
func versionsText(list []impl.Version) string {
	var words []string
	for _, v := range list {
		words = append(words, strconv.Itoa(v.At)+runText([]impl.Item{itemIn(v)}))
	}
	return strings.Join(words, " ")
}

// itemIn returns a version as an item, without its time.
func itemIn(v impl.Version) impl.Item {
	return impl.Item{Key: v.Key, Value: v.Value, Gone: v.Gone}
}

// versionsAt returns items as versions of one time.
func versionsAt(run []impl.Item, at int) []impl.Version {
	var list []impl.Version
	for _, item := range run {
		list = append(list, impl.Version{Key: item.Key, Value: item.Value, Gone: item.Gone, At: at})
	}
	return list
}

// mayStandBehind tells by the document whether a version may stand behind valid
// ones, however many these are.
func mayStandBehind(list []impl.Version, v impl.Version) bool {
	for _, ahead := range list {
		if ahead.At > v.At || ahead.Key == v.Key && ahead.At == v.At {
			return false
		}
	}
	return wholeRun([]impl.Item{itemIn(v)}) && v.At >= 1 && v.At <= 20
}

// wholeVersions tells by the document what versions are valid.
func wholeVersions(list []impl.Version) bool {
	for i, v := range list {
		if i > 29 || !mayStandBehind(list[:i], v) {
			return false
		}
	}
	return true
}

// readAtModel tells the value of a key at a time, from the last version on.
func readAtModel(list []impl.Version, key string, at int) (string, bool) {
	for _, v := range slices.Backward(list) {
		if v.Key == key && v.At <= at {
			return v.Value, !v.Gone
		}
	}
	return "", false
}

// keysIn returns the keys of versions, in the order of the alphabet, each once.
func keysIn(list []impl.Version) []string {
	var keys []string
	for _, v := range list {
		keys = append(keys, v.Key)
	}
	slices.Sort(keys)
	return slices.Compact(keys)
}

// seenModel tells the pairs at a time, key by key.
func seenModel(list []impl.Version, at int) []impl.Pair {
	var pairs []impl.Pair
	for _, key := range keysIn(list) {
		if value, there := readAtModel(list, key, at); there {
			pairs = append(pairs, impl.Pair{Key: key, Value: value})
		}
	}
	return pairs
}

// addModel tells the versions with changes at a time.
func addModel(list []impl.Version, ops []impl.Op, at int) ([]impl.Version, bool) {
	added := slices.Clone(list)
	for _, op := range ops {
		added = append(added, impl.Version{Key: op.Key, Value: op.Value, Gone: op.Gone, At: at})
	}
	later := !slices.ContainsFunc(list, func(v impl.Version) bool { return v.At >= at })
	if !later || at < 1 || at > 20 || len(shortModel(ops)) != len(ops) || !wholeVersions(added) {
		return nil, false
	}
	return added, true
}

// sweepModel tells the versions that a time sees from some time on: from the end
// on, those later, and the first one that is met of each key.
func sweepModel(list []impl.Version, from int) []impl.Version {
	var left []impl.Version
	met := map[string]bool{}
	for _, v := range slices.Backward(list) {
		if v.At > from {
			left = append(left, v)
			continue
		}
		if !met[v.Key] && !v.Gone {
			left = append(left, v)
		}
		met[v.Key] = true
	}
	slices.Reverse(left)
	return left
}

// betweenModel tells the changes from what is seen at a time to what is seen at
// another one.
func betweenModel(list []impl.Version, a, b int) []impl.Op {
	from, to := seenModel(list, a), seenModel(list, b)
	if len(from) > 24 || len(to) > 24 {
		return nil
	}
	return opsForModel(from, to)
}

// timesModel tells the times of versions, time by time.
func timesModel(list []impl.Version) []int {
	var times []int
	for at := 1; at <= 20; at++ {
		if slices.ContainsFunc(list, func(v impl.Version) bool { return v.At == at }) {
			times = append(times, at)
		}
	}
	return times
}

// fewVersions returns every version of two keys, with no value, one value, or
// gone, at three times.
func fewVersions() []impl.Version {
	var all []impl.Version
	for _, at := range []int{1, 4, 20} {
		all = append(all, versionsAt(runOf("a= a=x a- ab= ab=x ab-"), at)...)
	}
	return all
}

// eachVersions calls f with all valid versions, at most so many of fewVersions.
func eachVersions(size int, f func(list []impl.Version)) {
	choice := fewVersions()
	var grow func(list []impl.Version)
	grow = func(list []impl.Version) {
		f(list)
		for _, v := range choice {
			if len(list) < size && mayStandBehind(list, v) {
				grow(slices.Concat(list, []impl.Version{v}))
			}
		}
	}
	grow(nil)
}

// someVersions returns at most so many valid versions, whose keys are those of
// someOps, and whose times are the farther apart, the lower near is.
func someVersions(next func(int) int, size, letters, near int) []impl.Version {
	var list []impl.Version
	at := 1 + next(3)
	for range 4 * size {
		if next(near) == 0 {
			at = min(20, at+1+next(2))
		}
		for _, op := range someOps(next, 1, letters) {
			v := impl.Version{Key: op.Key, Value: op.Value, Gone: op.Gone, At: at}
			if len(list) < size && mayStandBehind(list, v) {
				list = append(list, v)
			}
		}
	}
	return list
}

// fullVersions returns as many versions as there may be: of which more are seen
// than a store has, just as many, one more at some time, one at each time, and
// none.
func fullVersions() [][]impl.Version {
	manyKeys := versionsAt(longRun(0, 30, "x"), 7)
	backwards := versionsAt(longRun(0, 30, "x"), 20)
	slices.Reverse(backwards)
	justFull := slices.Concat(versionsAt(longRun(0, 24, "x"), 2), versionsAt(longRun(4, 3, "-"), 5), versionsAt(longRun(4, 3, "y"), 6))
	oneMore := slices.Concat(versionsAt(longRun(0, 24, ""), 1), versionsAt(longRun(24, 1, "z"), 3), versionsAt(longRun(3, 5, "-"), 9))
	var oneKey []impl.Version
	for at := 1; at <= 20; at++ {
		oneKey = append(oneKey, versionsAt([]impl.Item{{Key: "k", Value: []string{"", "x", "yz"}[at%3]}}, at)...)
		if at%2 == 0 {
			oneKey = append(oneKey, versionsAt([]impl.Item{{Key: "kk", Gone: at%4 == 0}}, at)...)
		}
	}
	noneLeft := slices.Concat(versionsAt(longRun(0, 15, "wxyz"), 19), versionsAt(longRun(0, 15, "-"), 20))
	allGone := versionsAt(longRun(0, 30, "-"), 1)
	return [][]impl.Version{manyKeys, backwards, justFull, oneMore, oneKey, noneLeft, allGone}
}

// walkedVersions returns valid versions of any number.
func walkedVersions(count int) [][]impl.Version {
	next := rolls(103)
	all := fullVersions()
	for i := range count {
		all = append(all, someVersions(next, next(31), []int{2, 3, 8, 26}[i%4], []int{1, 2, 5, 12}[i/4%4]))
	}
	return all
}

// manyVersions calls f with all few versions, and with walked ones.
func manyVersions(f func(list []impl.Version)) {
	eachVersions(3, f)
	for _, list := range walkedVersions(600) {
		f(list)
	}
}

// someChanges returns changes, no two of one key, among them none, and as many
// as may be with some versions, and one more.
func someChanges(next func(int) int, list []impl.Version) [][]impl.Op {
	all := [][]impl.Op{nil, opsOf("a=x"), opsOf("ab- a="), opsOfRun(longRun(0, 30-len(list), "x")), opsOfRun(longRun(0, 31-len(list), "-"))}
	for range 3 {
		all = append(all, shortModel(someOps(next, next(12), 2+next(8))))
	}
	return all
}

// notTimes are numbers at which nothing can be read.
var notTimes = []int{-1, -2, -20, 21, 22, 256, 256 + 4, 1 << 32, 1<<32 + 4, math.MaxInt, math.MinInt, math.MinInt + 4}

// versionsNear returns a version with another key, value or time, or gone or not.
func versionsNear(v impl.Version) []impl.Version {
	var near []impl.Version
	change := func(f func(v *impl.Version)) {
		other := v
		f(&other)
		near = append(near, other)
	}
	for _, key := range slices.Concat([]string{"a", "aa", "k", "zzz"}, notKeys) {
		change(func(v *impl.Version) { v.Key = key })
	}
	for _, value := range slices.Concat([]string{"", "x", "wxyz"}, notValues) {
		change(func(v *impl.Version) { v.Value = value })
		change(func(v *impl.Version) { v.Value, v.Gone = value, true })
	}
	for _, at := range slices.Concat([]int{0, 1, v.At - 1, v.At + 1, 20}, notTimes) {
		change(func(v *impl.Version) { v.At = at })
	}
	change(func(v *impl.Version) { v.Gone = !v.Gone })
	return near
}

// wrongVersionTexts are versions that are not valid, each for one reason.
var wrongVersionTexts = []string{
	"0a=", "0a-", "21a=", "21a-", "256a=", "1a= 21b=", "20a= 21a=", "0a= 1a=", "0a= 1b= 2c=",
	"1a= 1a=", "1a=x 1a=y", "1a= 1a-", "1a- 1a=", "1a- 1a-", "20a= 20a=", "1a= 1b= 1a=", "1a= 1b= 1c= 1b-", "1a= 2b= 2c= 2b=x", "1a= 4ab= 4a= 4ab-",
	"2a= 1a=", "2a= 1b=", "20a= 1b=", "2a- 1a=", "1a= 3b= 2c=", "1a= 3b= 3c= 2c=", "3a= 3b= 1c= 3d=", "20a= 20b= 19c=", "2a= 3a= 2a=",
	"1=", "1-", "1=x", "1abcd=", "1abcd-", "1A=", "1a= 1B=", "1a1=", "1a= 2{-", "1a=vwxyz", "1a= 2b=X", "1a= 2b=x=", "3a=12",
	"1a-x", "1a= 1b-y", "1a-x 2a=", "20zzz-wxyz", "1a-vwxyz",
}

// wrongVersions returns versions that are not valid, also such as versionsOf
// does not read.
func wrongVersions() [][]impl.Version {
	wrong := [][]impl.Version{make([]impl.Version, 1), make([]impl.Version, 30), make([]impl.Version, 31), make([]impl.Version, 100000)}
	for _, text := range wrongVersionTexts {
		wrong = append(wrong, versionsOf(text))
	}
	var faults []impl.Version
	for _, key := range notKeys {
		faults = append(faults, impl.Version{Key: key, At: 4}, impl.Version{Key: key, Gone: true, At: 4}, impl.Version{Key: key, Value: "x", At: 4})
	}
	for _, value := range notValues {
		faults = append(faults, impl.Version{Key: "b", Value: value, At: 4}, impl.Version{Key: "b", Value: value, Gone: true, At: 4})
	}
	for _, at := range append([]int{0}, notTimes...) {
		faults = append(faults, impl.Version{Key: "b", At: at}, impl.Version{Key: "b", Gone: true, At: at}, impl.Version{Key: "b", Value: "x", At: at})
	}
	for _, v := range append(faults, versionsOf("4b-x 4b-wxyz")...) {
		wrong = append(wrong, []impl.Version{v}, slices.Concat(versionsOf("1a= 4a="), []impl.Version{v}), slices.Concat([]impl.Version{v}, versionsOf("4a= 20b=")), slices.Concat(versionsOf("4a=x"), []impl.Version{v}, versionsOf("4c= 5b-")))
	}
	for _, list := range fullVersions() {
		wrong = append(wrong, slices.Concat(list, versionsOf("20zzz=")), slices.Concat(versionsOf("1zzz-"), list), slices.Repeat(list, 2))
	}
	return wrong
}
