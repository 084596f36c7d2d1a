package tests

import (
	"fmt"
	"math"
	"slices"
	"strings"

	"loop.example/storeofkeys/impl"
)

// recOf reads a record: the transaction, then, for one that writes, the place, a
// up to c, and the numbers before and after; the same behind a < for one that
// takes back; a point for one that ends well, and a ! for one that stops.
func recOf(word string) impl.Rec {
	r := impl.Rec{Kind: 1, Tx: int(word[0] - '0')}
	switch {
	case word[1:] == ".":
		r.Kind = 3
	case word[1:] == "!":
		r.Kind = 4
	default:
		rest, back := strings.CutPrefix(word[1:], "<")
		if back {
			r.Kind = 2
		}
		r.Place, r.Before, r.After = int(rest[0]-'a'), int(rest[1]-'0'), int(rest[2]-'0')
	}
	return r
}

// recsOf reads records with a space between two of them.
func recsOf(text string) []impl.Rec {
	var list []impl.Rec
	for _, word := range strings.Fields(text) {
		list = append(list, recOf(word))
	}
	return list
}

// recText writes a record as recOf reads it, or with all its fields.
func recText(r impl.Rec) string {
	switch {
	case r == impl.Rec{Kind: 3, Tx: r.Tx}:
		return fmt.Sprintf("%d.", r.Tx)
	case r == impl.Rec{Kind: 4, Tx: r.Tx}:
		return fmt.Sprintf("%d!", r.Tx)
	case r.Kind == 1 && r.Place >= 0 && r.Place <= 2:
		return fmt.Sprintf("%d%c%d%d", r.Tx, 'a'+r.Place, r.Before, r.After)
	case r.Kind == 2 && r.Place >= 0 && r.Place <= 2:
		return fmt.Sprintf("%d<%c%d%d", r.Tx, 'a'+r.Place, r.Before, r.After)
	}
	return fmt.Sprintf("%+v", r)
}

// recsText writes records as recsOf reads them.
func recsText(list []impl.Rec) string {
	var words []string
	for _, r := range list {
		words = append(words, recText(r))
	}
	return strings.Join(words, " ")
}

// behind returns records with others behind them, in memory of their own.
func behind(list []impl.Rec, more ...impl.Rec) []impl.Rec {
	return slices.Concat(list, more)
}

// wordModel tells the number at a place: that of the last record that puts one.
func wordModel(list []impl.Rec, place int) int {
	for _, r := range slices.Backward(list) {
		if (r.Kind == 1 || r.Kind == 2) && r.Place == place {
			return r.After
		}
	}
	return 0
}

// endModel tells the kind of the end of a transaction, 0 if there is none.
func endModel(list []impl.Rec, tx int) int {
	for _, r := range list {
		if r.Tx == tx && (r.Kind == 3 || r.Kind == 4) {
			return r.Kind
		}
	}
	return 0
}

// recsOfTx returns the records of one kind of a transaction.
func recsOfTx(list []impl.Rec, tx, kind int) []impl.Rec {
	var some []impl.Rec
	for _, r := range list {
		if r.Tx == tx && r.Kind == kind {
			some = append(some, r)
		}
	}
	return some
}

// lockedFor tells whether another transaction than one has written at a place,
// and has not ended.
func lockedFor(list []impl.Rec, tx, place int) bool {
	return slices.ContainsFunc(list, func(r impl.Rec) bool {
		return r.Kind == 1 && r.Tx != tx && r.Place == place && endModel(list, r.Tx) == 0
	})
}

// mayFollow tells by the document whether a record may stand behind a history.
func mayFollow(list []impl.Rec, r impl.Rec) bool {
	if r.Tx < 1 || r.Tx > 4 || endModel(list, r.Tx) != 0 {
		return false
	}
	writes, backs := recsOfTx(list, r.Tx, 1), recsOfTx(list, r.Tx, 2)
	bare := r.Place == 0 && r.Before == 0 && r.After == 0
	switch r.Kind {
	case 1:
		inside := r.Place >= 0 && r.Place <= 2 && r.After >= 0 && r.After <= 9
		return inside && r.Before == wordModel(list, r.Place) && len(backs) == 0 && !lockedFor(list, r.Tx, r.Place)
	case 2:
		if len(backs) == len(writes) {
			return false
		}
		last := writes[len(writes)-len(backs)-1]
		return r.Place == last.Place && r.After == last.Before && r.Before == wordModel(list, r.Place)
	case 3:
		return bare && len(backs) == 0
	case 4:
		return bare && len(backs) == len(writes)
	}
	return false
}

// followingRecs tells whether records are a history, any number of them.
func followingRecs(list []impl.Rec) bool {
	for i, r := range list {
		if !mayFollow(list[:i], r) {
			return false
		}
	}
	return true
}

// wholeRecs tells whether records are a history by the document.
func wholeRecs(list []impl.Rec) bool {
	return len(list) <= 24 && followingRecs(list)
}

// runModel tells the numbers at all places behind records.
func runModel(list []impl.Rec) []int {
	return []int{wordModel(list, 0), wordModel(list, 1), wordModel(list, 2)}
}

// openModel tells the transactions with a record, but without an end.
func openModel(list []impl.Rec) []int {
	var open []int
	for tx := 1; tx <= 4; tx++ {
		begun := slices.ContainsFunc(list, func(r impl.Rec) bool { return r.Tx == tx })
		if begun && endModel(list, tx) == 0 {
			open = append(open, tx)
		}
	}
	return open
}

// doneModel tells the numbers behind the writes of what has ended well.
func doneModel(list []impl.Rec) []int {
	var done []impl.Rec
	for _, r := range list {
		if r.Kind == 1 && endModel(list, r.Tx) == 3 {
			done = append(done, r)
		}
	}
	return runModel(done)
}

// diskModel tells the numbers at all places as they are kept.
func diskModel(list []impl.Rec, kept []int) []int {
	var words []int
	for place, n := range kept {
		words = append(words, wordModel(list[:n], place))
	}
	return words
}

// backOf returns the record that takes back a write.
func backOf(r impl.Rec) impl.Rec {
	return impl.Rec{Kind: 2, Tx: r.Tx, Place: r.Place, Before: r.After, After: r.Before}
}

// undoModel tells the records that take back all that is open. From the end on,
// each record that takes back goes with the next write of its transaction.
func undoModel(list []impl.Rec) []impl.Rec {
	var undo []impl.Rec
	backs := map[int]int{}
	for _, r := range slices.Backward(list) {
		switch {
		case endModel(list, r.Tx) != 0:
		case r.Kind == 2:
			backs[r.Tx]++
		case backs[r.Tx] > 0:
			backs[r.Tx]--
		default:
			undo = append(undo, backOf(r))
		}
	}
	for _, tx := range openModel(list) {
		undo = append(undo, impl.Rec{Kind: 4, Tx: tx})
	}
	return undo
}

// fewRecs returns every record of two transactions, two places and two numbers.
func fewRecs() []impl.Rec {
	list := recsOf("1. 1! 2. 2!")
	for kind := 1; kind <= 2; kind++ {
		for i := range 16 {
			list = append(list, impl.Rec{Kind: kind, Tx: 1 + i/8, Place: i / 4 % 2, Before: i / 2 % 2, After: i % 2})
		}
	}
	return list
}

// eachHistory calls f with every history of at most so many records of fewRecs.
func eachHistory(size int, f func(list []impl.Rec)) {
	choice := fewRecs()
	var grow func(list []impl.Rec)
	grow = func(list []impl.Rec) {
		f(list)
		for _, r := range choice {
			if len(list) < size && mayFollow(list, r) {
				grow(behind(list, r))
			}
		}
	}
	grow(nil)
}

// someRec returns a record of a transaction that may stand behind a history, or
// may not: ends are the more frequent, the lower ends is.
func someRec(next func(int) int, list []impl.Rec, tx, ends int) impl.Rec {
	writes, backs := recsOfTx(list, tx, 1), recsOfTx(list, tx, 2)
	kind := 1 + next(ends)
	switch {
	case len(backs) < len(writes) && (kind == 2 || len(backs) > 0):
		return backOf(writes[len(writes)-len(backs)-1])
	case kind == 3 || kind == 4 || len(backs) > 0:
		return impl.Rec{Kind: 3 + next(2), Tx: tx}
	}
	place := next(3)
	return impl.Rec{Kind: 1, Tx: tx, Place: place, Before: wordModel(list, place), After: next(10)}
}

// someRecs returns a history of at most so many records.
func someRecs(next func(int) int, size, ends int) []impl.Rec {
	var list []impl.Rec
	for range 6 * size {
		if r := someRec(next, list, 1+next(4), ends); len(list) < size && mayFollow(list, r) {
			list = append(list, r)
		}
	}
	return list
}

// fullRecs returns histories of as many records as there may be: writes alone,
// all of it ended, half of the writes taken back, and all but the last ones.
func fullRecs() [][]impl.Rec {
	var rising, ended []impl.Rec
	for i := range 24 {
		r := impl.Rec{Kind: 1, Tx: 1 + i%3, Place: i % 3, After: i/3 + 1}
		r.Before = wordModel(rising, r.Place)
		rising = append(rising, r)
	}
	ended = behind(rising[:20], recsOf("4! 3. 2. 1.")...)
	halfBack := behind(rising[:12], undoModel(rising[:12])[:12]...)
	allBack := slices.Concat(rising[:9], undoModel(rising[:9]), recsOf("4a01 4b02 4c03"))
	return [][]impl.Rec{rising, ended, halfBack, allBack}
}

// walkedRecs returns histories of any number of records.
func walkedRecs(count int) [][]impl.Rec {
	next := rolls(79)
	all := fullRecs()
	for i := range count {
		all = append(all, someRecs(next, 1+next(24), []int{2, 5, 9, 18, 40, 80}[i%6]))
	}
	return all
}

// longRecs returns histories of more records than there may be.
func longRecs(count int) [][]impl.Rec {
	next := rolls(83)
	var all [][]impl.Rec
	for _, list := range fullRecs() {
		if undo := undoModel(list); len(undo) > 0 {
			all = append(all, behind(list, undo[0]))
		}
	}
	for len(all) < count {
		if list := someRecs(next, 25+next(30), 100); len(list) > 24 {
			all = append(all, list)
		}
	}
	return all
}

// manyHistories calls f with all few records, and with walked ones.
func manyHistories(f func(list []impl.Rec)) {
	eachHistory(3, f)
	for _, list := range walkedRecs(900) {
		f(list)
	}
}

// someKept returns how many records may be kept of a history: some at each
// place, none, all, and all but one.
func someKept(next func(int) int, size int) [][]int {
	all := [][]int{{0, 0, 0}, {size, size, size}, {0, size, size}, {size, 0, size}, {size, size, 0}}
	if size > 0 {
		all = append(all, []int{size - 1, size - 1, size - 1}, []int{1, 1, 1})
	}
	for range 8 {
		all = append(all, []int{next(size + 1), next(size + 1), next(size + 1)})
	}
	return all
}

// eachKept calls f with all that may be kept of so many records.
func eachKept(size int, f func(kept []int)) {
	for i := range (size + 1) * (size + 1) * (size + 1) {
		f([]int{i % (size + 1), i / (size + 1) % (size + 1), i / (size + 1) / (size + 1)})
	}
}

// notNumbers are numbers that no field of a record may have.
var notNumbers = []int{-1, 10, 11, 256 + 1, 1<<32 + 1, math.MaxInt, math.MinInt}

// recsNear returns a record with one field more or less, as another kind, or
// with a number that it may not have.
func recsNear(r impl.Rec) []impl.Rec {
	var near []impl.Rec
	change := func(field func(r *impl.Rec) *int) {
		other := r
		at := field(&other)
		was := *at
		for _, n := range append([]int{was - 1, was + 1, 0, 1, 2, 3, 4, 5}, notNumbers...) {
			*at = n
			near = append(near, other)
		}
	}
	change(func(r *impl.Rec) *int { return &r.Kind })
	change(func(r *impl.Rec) *int { return &r.Tx })
	change(func(r *impl.Rec) *int { return &r.Place })
	change(func(r *impl.Rec) *int { return &r.Before })
	change(func(r *impl.Rec) *int { return &r.After })
	return near
}

// wrongHistories are records that are no history, each for one reason.
var wrongHistories = []string{
	"1a15", "1a95", "1a05 1a06", "1a05 1a46", "1a05 2b50", "1a05 1. 2a06", "1a05 1<a50 1! 2a56",
	"1a05 2a56", "1a00 2a00", "1a05 1b06 2a56", "1a05 2b06 2a56", "1a05 1<a50 2a07", "1a05 1b06 1<b60 1<a50 2b07", "1a05 2. 3a56", "1a01 1. 2a12 3a23", "1a05 2b06 1. 3b67",
	"1<a00", "1<a05", "1a05 2<a50", "1a05 1<a55", "1a05 1<a51", "1a05 1<a40", "1a05 1<b00", "1a05 1<b50", "1a05 1<a05", "1a05 1<a50 1<a00", "1a05 1<a50 1<a50",
	"1a05 1b06 1<a50", "1a05 1a56 1<a50", "1a05 1a56 1<a60", "1a05 1a56 1<a65 1<a65", "1a05 1a56 1<a65 1<a60", "1a05 1b05 1<a50", "1a05 2b06 1<b60", "1a05 1. 1<a50", "1a05 1. 2<a50",
	"1a05 1!", "1a05 1b06 1<b60 1!", "1a05 1<a50 1.", "1a05 1a55 1<a55 1.", "1a05 1b06 1<b60 1.", "1a00 1!", "1a00 1<a00 1.",
	"1. 1.", "1! 1!", "1. 1!", "1! 1.", "1. 1a05", "1! 1a05", "1a05 1. 1.", "1a05 1. 1a56", "1a05 1<a50 1! 1a05", "1a05 1<a50 1! 1!", "1a05 1<a50 1! 1<a50", "1. 2. 3. 4. 1.",
	"1a05 1<a50 1a05", "1a05 1<a50 1b05", "1a05 1b06 1<b60 1a57", "1a05 1b06 1<b60 1b06", "1a05 1a56 1<a65 1a56",
	"0a05", "5a05", "9a05", "0.", "5.", "0!", "5!", "1a05 0<a50", "1d05", "1z05", "1`05", "1a0:", "1a0/", "1a/5", "1a05 1<d50", "1a05 1<`50",
}

// wrongRecs returns records that are no history, also such as fields hold that
// recOf does not read.
func wrongRecs() [][]impl.Rec {
	var wrong [][]impl.Rec
	for _, text := range wrongHistories {
		wrong = append(wrong, recsOf(text))
	}
	for _, end := range recsOf("1. 1!") {
		for _, n := range append([]int{1, 2}, notNumbers...) {
			for _, r := range []impl.Rec{{Place: n}, {Before: n}, {After: n}} {
				r.Kind, r.Tx = end.Kind, end.Tx
				wrong = append(wrong, []impl.Rec{r})
			}
		}
	}
	for _, n := range append([]int{0, 5}, notNumbers...) {
		wrong = append(wrong, []impl.Rec{{Kind: n, Tx: 1}}, []impl.Rec{{Kind: n, Tx: 1, After: 5}}, []impl.Rec{{Kind: 3, Tx: n}}, []impl.Rec{{Kind: 4, Tx: n}}, []impl.Rec{{Kind: 1, Tx: n, After: 5}})
	}
	for _, n := range notNumbers {
		wrong = append(wrong, []impl.Rec{{Kind: 1, Tx: 1, Place: n}}, []impl.Rec{{Kind: 1, Tx: 1, Before: n}}, []impl.Rec{{Kind: 1, Tx: 1, After: n}}, behind(recsOf("1a05"), impl.Rec{Kind: 2, Tx: 1, Place: n, Before: 5}))
	}
	for _, list := range slices.Clone(wrong) {
		wrong = append(wrong, behind(list, recsOf("4c01 4.")...))
	}
	return append(wrong, []impl.Rec{{}}, make([]impl.Rec, 24), make([]impl.Rec, 25), behind(recsOf("4c01 4."), impl.Rec{}))
}

// wrongKept returns what may not be kept of so many records.
func wrongKept(size int) [][]int {
	wrong := [][]int{nil, {}, {0}, {0, 0}, {0, 0, 0, 0}, {size, size}, {size, size, size, size}, make([]int, 100000)}
	for _, n := range []int{-1, -size - 1, size + 1, size + 2, size + 256, 1<<32 + size, math.MaxInt, math.MinInt} {
		wrong = append(wrong, []int{n, 0, 0}, []int{0, n, 0}, []int{0, 0, n}, []int{n, n, n}, []int{size, n, size})
	}
	return wrong
}
