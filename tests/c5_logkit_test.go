package tests

import (
	"regexp"
	"slices"
	"strconv"
	"strings"

	"loop.example/storeofkeys/impl"
)

// opsOf reads changes written as runOf reads a run.
func opsOf(text string) []impl.Op {
	return opsOfRun(runOf(text))
}

// opsText writes changes as opsOf reads them.
func opsText(ops []impl.Op) string {
	var run []impl.Item
	for _, op := range ops {
		run = append(run, impl.Item(op))
	}
	return runText(run)
}

// opsOfRun returns the changes that items are.
func opsOfRun(run []impl.Item) []impl.Op {
	var ops []impl.Op
	for _, item := range run {
		ops = append(ops, impl.Op(item))
	}
	return ops
}

// wholeOps tells by the document what changes are valid.
func wholeOps(ops []impl.Op) bool {
	for i, op := range ops {
		if i > 47 || !wholeRun([]impl.Item{impl.Item(op)}) {
			return false
		}
	}
	return true
}

// behindOps returns the pairs behind changes, any number of them: each change is
// a run of its own, newer than all others.
func behindOps(list []impl.Pair, ops []impl.Op) []impl.Pair {
	var runs [][]impl.Item
	for _, op := range slices.Backward(ops) {
		runs = append(runs, []impl.Item{impl.Item(op)})
	}
	var oldest []impl.Item
	for _, p := range list {
		oldest = append(oldest, impl.Item{Key: p.Key, Value: p.Value})
	}
	return newestPairs(append(runs, oldest)...)
}

// sumModel tells the sum of a text, whose rests are taken but once: b has each
// byte as often as there are bytes from it on.
func sumModel(s string) int {
	a, b := 1, len(s)
	for i := range len(s) {
		a += int(s[i])
		b += int(s[i]) * (len(s) - i)
	}
	return b%61*61 + a%61
}

// summed returns a text as a line with its sum.
func summed(text string) string {
	return text + "#" + strconv.Itoa(sumModel(text)) + "\n"
}

// lineModel tells the line of a change.
func lineModel(op impl.Op) string {
	if op.Gone {
		return summed("drop " + op.Key)
	}
	return summed("put " + op.Key + " " + op.Value)
}

// linesModel tells the lines of changes, any number of them.
func linesModel(ops []impl.Op) string {
	var lines []string
	for _, op := range ops {
		lines = append(lines, lineModel(op))
	}
	return strings.Join(lines, "")
}

// linePattern is how a line of a log looks, whatever its sum is.
var linePattern = regexp.MustCompile(`^(?:put ([a-z]{1,3}) ([a-z]{0,4})|drop ([a-z]{1,3}))#([0-9]+)\n`)

// readModel tells the changes of a text, and how many bytes their lines are.
func readModel(s string) ([]impl.Op, int) {
	var ops []impl.Op
	told := 0
	for {
		words := linePattern.FindStringSubmatch(s[told:])
		if words == nil {
			return ops, told
		}
		text := words[0][:len(words[0])-len(words[4])-2]
		if words[4] != strconv.Itoa(sumModel(text)) {
			return ops, told
		}
		op := impl.Op{Key: words[1], Value: words[2]}
		if words[3] != "" {
			op = impl.Op{Key: words[3], Gone: true}
		}
		ops = append(ops, op)
		told += len(words[0])
	}
}

// shortModel tells the last change of each key, in order.
func shortModel(ops []impl.Op) []impl.Op {
	last := map[string]int{}
	for i, op := range ops {
		last[op.Key] = i
	}
	var short []impl.Op
	for i, op := range ops {
		if last[op.Key] == i {
			short = append(short, op)
		}
	}
	return short
}

// opsForModel tells the changes from pairs to others, of each key that has not
// the same in both.
func opsForModel(from, to []impl.Pair) []impl.Op {
	before, after := map[string]string{}, map[string]string{}
	var keys []string
	for _, p := range from {
		before[p.Key] = "=" + p.Value
		keys = append(keys, p.Key)
	}
	for _, p := range to {
		after[p.Key] = "=" + p.Value
		keys = append(keys, p.Key)
	}
	slices.Sort(keys)
	var ops []impl.Op
	for _, key := range slices.Compact(keys) {
		switch {
		case after[key] == "":
			ops = append(ops, impl.Op{Key: key, Gone: true})
		case before[key] != after[key]:
			ops = append(ops, impl.Op{Key: key, Value: after[key][1:]})
		}
	}
	return ops
}

// rolls returns a function whose numbers follow from a seed, each less than the
// number that it is asked for.
func rolls(seed uint32) func(int) int {
	return func(n int) int {
		seed = seed*1664525 + 1013904223
		return int(seed>>16) % n
	}
}

// someOps returns so many changes, of which the keys are letters up to the last
// one, or two or three of it.
func someOps(next func(int) int, size int, letters int) []impl.Op {
	var ops []impl.Op
	for range size {
		key := strings.Repeat(string(rune('a'+next(letters))), 1+next(3))
		op := impl.Op{Key: key, Value: word(next, next(5))}
		if next(3) == 0 {
			op = impl.Op{Key: key, Gone: true}
		}
		ops = append(ops, op)
	}
	return ops
}

// fewOps returns all changes, three at most, of three keys that have no value,
// one value, or are gone.
func fewOps() [][]impl.Op {
	var all [][]impl.Op
	one := opsOf("a= a=x a- ab= ab=x ab- b= b=x b-")
	all = append(all, nil)
	for _, first := range one {
		all = append(all, []impl.Op{first})
		for _, second := range one {
			all = append(all, []impl.Op{first, second})
			for _, third := range one {
				all = append(all, []impl.Op{first, second, third})
			}
		}
	}
	return all
}

// walkedOps returns changes of any number.
func walkedOps(count int) [][]impl.Op {
	next := rolls(67)
	all := [][]impl.Op{opsOfRun(longRun(0, 48, "wxyz")), opsOfRun(longRun(0, 48, "")), opsOfRun(longRun(0, 48, "-"))}
	for range count {
		all = append(all, someOps(next, next(49), 2+next(14)))
	}
	return all
}

// fewStores returns all pairs of some keys, each with no value or one value.
func fewStores(keys ...string) [][]impl.Pair {
	stores := [][]impl.Pair{nil}
	for _, key := range keys {
		for _, list := range slices.Clone(stores) {
			stores = append(stores,
				append(slices.Clone(list), impl.Pair{Key: key}),
				append(slices.Clone(list), impl.Pair{Key: key, Value: "x"}))
		}
	}
	return stores
}

// walkedStores returns pairs of any number, whose keys are those of walkedOps.
func walkedStores(count int) [][]impl.Pair {
	next := rolls(71)
	var stores [][]impl.Pair
	for range count {
		list := behindOps(nil, someOps(next, next(80), 2+next(14)))
		stores = append(stores, list[:min(24, len(list))])
	}
	return append(stores, nil, rising(23), rising(24))
}

// lineOfSize returns a line of so many bytes.
func lineOfSize(size int) string {
	for a := 'a'; a <= 'z'; a++ {
		for n := range 5 {
			for _, text := range []string{"drop " + string(a), "put " + string(a) + " " + strings.Repeat("m", n), "put abc " + strings.Repeat(string(a), n)} {
				if line := summed(text); len(line) == size {
					return line
				}
			}
		}
	}
	panic("no such line")
}

// longLog returns lines of 18 bytes, and one of 12 behind them, of so many bytes
// together, which are 12 more than some times 18.
func longLog(size int) string {
	return strings.Repeat(lineOfSize(18), size/18) + lineOfSize(12)
}

// wrongTexts are texts that are no changes, even if they have their sums.
var wrongTexts = []string{
	"", " ", "#", "\n", "\x00", "put", "put ", "put  ", "put  x", "put a", "put ab", "put  a x", "put a  x", "put a x ", " put a x", "put a x y",
	"put A x", "put a X", "put a1 x", "put a 1", "put abcd x", "put abcd ", "put a vwxyz", "put a x#", "put a x#12", "put a #", "put a=x", "put a =x",
	"put\ta x", "put a\tx", "put a x\r", "put a x\x00", "put \xc3\xa9 x", "put a \xc3\xa9", "put a \xff", "put {  x", "put a `", "puta x", "PUT a x", "Put a x",
	"putt a x", "pu a x", "get a", "get a x", "del a", "a", "a x", "a=x", "drop", "drop ", "drop  ", "drop  a", "drop a ", "drop a x", "drop a-", "drop A",
	"drop abcd", "drop a#", "drop a\r", "dropa", "Drop a", "drop\ta", " drop a", "drop \xff", "flush", "put a x\nput b y", "put a x#2294\nput b y",
}

// wrongLines returns lines that are none of a log, each for one reason.
func wrongLines() []string {
	wrong := []string{"\n", "put a x\n", "put a \n", "drop a\n", "#\n", "#1\n", "put a x#\n", "put a #\n", "drop a#\n"}
	for _, text := range wrongTexts {
		wrong = append(wrong, summed(text))
	}
	for _, op := range opsOf("a=x ab= abc=wxyz z- zzz=") {
		line := lineModel(op)
		text, sum, _ := strings.Cut(line[:len(line)-1], "#")
		number, _ := strconv.Atoi(sum)
		for other := -1; other <= 4000; other++ {
			if other != number {
				wrong = append(wrong, text+"#"+strconv.Itoa(other)+"\n")
			}
		}
		for _, other := range []string{"0" + sum, "00" + sum, "+" + sum, "-" + sum, " " + sum, sum + " ", sum + "\r", sum + "0", sum + ".0", sum + "#", "#" + sum, "0x" + strconv.FormatInt(int64(number), 16), sum[:len(sum)-1], sum[1:], sum + "\x00", strconv.Itoa(number + 1<<32), sum + "#" + sum} {
			wrong = append(wrong, text+"#"+other+"\n")
		}
		for _, other := range []string{text + sum, text + "##" + sum, text + " #" + sum, text + " " + sum, text + "= " + sum, " " + text + "#" + sum, text + "#" + sum + "\r"} {
			wrong = append(wrong, other+"\n")
		}
	}
	return wrong
}

// wrongOps returns changes that are not valid, each for one reason.
func wrongOps() [][]impl.Op {
	wrong := [][]impl.Op{opsOfRun(longRun(0, 49, "x")), opsOfRun(longRun(0, 49, "-")), slices.Repeat(opsOf("a="), 49), make([]impl.Op, 49), make([]impl.Op, 100000)}
	var ops []impl.Op
	for _, key := range notKeys {
		ops = append(ops, impl.Op{Key: key}, impl.Op{Key: key, Gone: true}, impl.Op{Key: key, Value: "x"})
	}
	for _, value := range notValues {
		ops = append(ops, impl.Op{Key: "a", Value: value}, impl.Op{Key: "a", Value: value, Gone: true})
	}
	ops = append(ops, opsOf("a-x zzz-wxyz")...)
	for _, op := range ops {
		wrong = append(wrong, []impl.Op{op}, append(opsOf("a= b-"), op), append([]impl.Op{op}, opsOf("a= b-")...), slices.Insert(opsOfRun(longRun(0, 47, "x")), 20, op))
	}
	return wrong
}
