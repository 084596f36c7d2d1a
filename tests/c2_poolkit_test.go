package tests

import (
	"math"
	"math/bits"
	"slices"

	"loop.example/storeofkeys/impl"
)

// cold is a frame without a page.
var cold = impl.Frame{Page: -1}

// kept returns a frame with a page that is warm.
func kept(page, pins int) impl.Frame {
	return impl.Frame{Page: page, Pins: pins, Warm: true}
}

// cool returns a frame with a page that is not warm.
func cool(page, pins int) impl.Frame {
	return impl.Frame{Page: page, Pins: pins}
}

// poolOf returns a pool of frames.
func poolOf(hand int, frames ...impl.Frame) impl.Pool {
	return impl.Pool{Frames: frames, Hand: hand}
}

// samePool reports whether two pools are the same.
func samePool(a, b impl.Pool) bool {
	return a.Hand == b.Hand && slices.Equal(a.Frames, b.Frames)
}

// copyOfPool returns a pool that shares nothing with another one.
func copyOfPool(p impl.Pool) impl.Pool {
	return impl.Pool{Frames: append([]impl.Frame(nil), p.Frames...), Hand: p.Hand}
}

// wholePool tells by the document what a valid pool is.
func wholePool(p impl.Pool) bool {
	if len(p.Frames) == 0 || len(p.Frames) > 5 || p.Hand < 0 || p.Hand > len(p.Frames)-1 {
		return false
	}
	for i, f := range p.Frames {
		switch {
		case f.Page == -1:
			if f.Pins != 0 || f.Warm {
				return false
			}
		case f.Page < 0 || f.Page > 9 || f.Pins < 0 || f.Pins > 3:
			return false
		}
		for _, other := range p.Frames[:i] {
			if f.Page != -1 && f.Page == other.Page {
				return false
			}
		}
	}
	return true
}

// eachPool calls f with every pool of n frames, in which the frame i has the
// page i times step, or none. The frames are the same memory in each call.
func eachPool(n, step int, f func(p impl.Pool)) {
	states := 1
	for range n {
		states *= 9
	}
	p := impl.Pool{Frames: make([]impl.Frame, n)}
	for state := range states {
		left := state
		for i := range p.Frames {
			p.Frames[i] = cold
			if kind := left % 9; kind < 8 {
				p.Frames[i] = impl.Frame{Page: i * step, Pins: kind / 2, Warm: kind%2 == 1}
			}
			left /= 9
		}
		for p.Hand = range n {
			f(p)
		}
	}
}

// manyPools calls f with every pool of eachPool of up to 4 frames, and some of 5.
func manyPools(f func(p impl.Pool)) {
	for n := 1; n <= 4; n++ {
		eachPool(n, 3, f)
	}
	turn := 0
	eachPool(5, 2, func(p impl.Pool) {
		if turn++; turn%11 == 0 {
			f(p)
		}
	})
}

// wrongPools returns pools that are not valid, each for one reason.
func wrongPools() []impl.Pool {
	return []impl.Pool{
		{},
		poolOf(0),
		{Hand: 1},
		poolOf(0, cold, cold, cold, cold, cold, cold),
		poolOf(0, kept(1, 0), cool(2, 0), kept(3, 0), cool(4, 0), kept(5, 0), cool(6, 0)),
		poolOf(-1, cold, kept(3, 0)),
		poolOf(2, cold, kept(3, 0)),
		poolOf(1, kept(3, 0)),
		poolOf(5, cold, cold, cold, cold, cold),
		poolOf(math.MaxInt, cold, kept(3, 0)),
		poolOf(math.MinInt, cold, kept(3, 0)),
		poolOf(0, cold, cool(10, 0)),
		poolOf(0, cold, cool(-2, 0)),
		poolOf(0, cool(math.MaxInt, 0)),
		poolOf(0, cool(math.MinInt, 0)),
		poolOf(0, kept(3, 0), kept(3, 0)),
		poolOf(1, kept(3, 1), cold, cool(4, 0), cool(3, 0)),
		poolOf(0, impl.Frame{}, impl.Frame{}),
		poolOf(0, kept(3, 4), cold),
		poolOf(0, cold, cool(3, -1)),
		poolOf(0, kept(3, math.MaxInt)),
		poolOf(0, kept(3, math.MinInt)),
		poolOf(0, kept(-1, 0), kept(3, 0)),
		poolOf(0, kept(3, 0), cool(-1, 1)),
		poolOf(0, cool(-1, -1)),
		poolOf(0, kept(-1, 3)),
	}
}

// notPages are numbers of no page.
var notPages = []int{-2, -1, 10, 11, 255, 256, math.MaxInt, math.MinInt}

// notFrames are how many frames there may not be.
var notFrames = []int{-5, -1, 0, 6, 7, 256 + 3, math.MaxInt, math.MinInt}

// whereIs returns the frame of a page, or -1.
func whereIs(p impl.Pool, page int) int {
	return slices.IndexFunc(p.Frames, func(f impl.Frame) bool { return f.Page == page })
}

// behindFetch returns by the document the pool with the page, and what was done.
func behindFetch(p impl.Pool, page int) (impl.Pool, int, bool) {
	q := copyOfPool(p)
	if at := whereIs(q, page); at >= 0 {
		if q.Frames[at].Pins == 3 {
			return impl.Pool{}, -1, false
		}
		q.Frames[at].Pins++
		q.Frames[at].Warm = true
		return q, 0, true
	}
	order := append(q.Frames[p.Hand:len(q.Frames):len(q.Frames)], q.Frames[:p.Hand]...)
	i := slices.IndexFunc(order, func(f impl.Frame) bool { return f.Pins == 0 && !f.Warm })
	warmUpTo := i
	if i < 0 { // all warm ones are made cold in a whole round, and then the first one is it
		i = slices.IndexFunc(order, func(f impl.Frame) bool { return f.Pins == 0 })
		warmUpTo = len(order)
	}
	if i < 0 {
		return impl.Pool{}, -1, false
	}
	for j := range warmUpTo {
		if order[j].Pins == 0 {
			order[j].Warm = false
		}
	}
	kind := 2
	if order[i].Page == -1 {
		kind = 1
	}
	order[i] = kept(page, 1)
	for j, f := range order {
		q.Frames[(p.Hand+j)%len(order)] = f
	}
	q.Hand = (p.Hand + i + 1) % len(order)
	return q, kind, true
}

// eachTrace calls f with every trace of up to size pages of the first few ones.
func eachTrace(size, pages int, f func(trace []int)) {
	var trace []int
	var grow func()
	grow = func() {
		f(trace)
		if len(trace) == size {
			return
		}
		for page := range pages {
			trace = append(trace, page)
			grow()
			trace = trace[:len(trace)-1]
		}
	}
	grow()
}

// walkedTraces returns traces of a fixed walk: long ones, of few pages and of
// many, some of which come back to the same pages again and again.
func walkedTraces() [][]int {
	seed := uint32(11)
	next := func(n int) int {
		seed = seed*1664525 + 1013904223
		return int(seed>>16) % n
	}
	var traces [][]int
	for i := range 600 {
		pages := 1 + i%10
		trace := make([]int, 24+next(7))
		for at := range trace {
			trace[at] = next(pages)
			if i%3 == 0 && at > 0 && next(3) > 0 {
				trace[at] = trace[at-1-next(min(at, 4))]
			}
		}
		traces = append(traces, trace)
	}
	return traces
}

// drawnTraces returns traces by hand: none, one page, in rounds, there and back.
func drawnTraces() [][]int {
	return [][]int{
		nil,
		{},
		{0},
		{9},
		slices.Repeat([]int{4}, 30),
		slices.Repeat([]int{0, 9}, 15),
		slices.Repeat([]int{0, 1, 2, 3, 4, 5}, 5),
		slices.Repeat([]int{9, 8, 7, 6, 5, 4, 3, 2, 1, 0}, 3),
		{0, 1, 2, 3, 4, 5, 6, 7, 8, 9, 9, 8, 7, 6, 5, 4, 3, 2, 1, 0},
		{1, 2, 3, 4, 1, 2, 5, 1, 2, 3, 4, 5},
		{7, 0, 1, 2, 0, 3, 0, 4, 2, 3, 0, 3, 2, 1, 2, 0, 1, 7, 0, 1},
	}
}

// manyTraces calls f with all traces on which the promises are tried.
func manyTraces(f func(trace []int)) {
	eachTrace(7, 3, f)
	eachTrace(5, 5, f)
	for _, trace := range slices.Concat(drawnTraces(), walkedTraces()) {
		f(trace)
	}
}

// wrongTraces returns traces with one page that is none, or one page too many.
func wrongTraces() [][]int {
	traces := [][]int{
		make([]int, 31),
		slices.Repeat([]int{1, 2}, 16),
		slices.Repeat([]int{5}, 300),
	}
	for _, page := range notPages {
		traces = append(traces, []int{page}, []int{1, 2, page}, []int{1, page, 1}, append(make([]int, 29), page))
	}
	return traces
}

// different returns how many different pages there are.
func different(trace []int) int {
	seen := map[int]bool{}
	for _, page := range trace {
		seen[page] = true
	}
	return len(seen)
}

// clockModel counts what a clock without pins misses, by behindFetch alone.
func clockModel(n int, trace []int) int {
	p := poolOf(0, slices.Repeat([]impl.Frame{cold}, n)...)
	misses := 0
	for _, page := range trace {
		q, kind, _ := behindFetch(p, page)
		if kind > 0 {
			misses++
		}
		q.Frames[whereIs(q, page)].Pins = 0
		p = q
	}
	return misses
}

// oldModel counts misses with the pages that are there in the order in which
// they were last asked for.
func oldModel(n int, trace []int) int {
	var there []int
	misses := 0
	for _, page := range trace {
		if at := slices.Index(there, page); at >= 0 {
			there = slices.Delete(there, at, at+1)
		} else {
			misses++
		}
		there = append(there, page)
		there = there[max(0, len(there)-n):]
	}
	return misses
}

// leastModel finds the least misses by trying every choice of what makes room:
// for each set of pages that may be there, how few misses lead to it.
func leastModel(n int, trace []int) int {
	least := map[uint]int{0: 0}
	for _, page := range trace {
		behind := map[uint]int{}
		add := func(set uint, misses int) {
			if old, ok := behind[set]; !ok || misses < old {
				behind[set] = misses
			}
		}
		for set, misses := range least {
			with := set | 1<<page
			switch {
			case set == with:
				add(set, misses)
			case bits.OnesCount(set) < n:
				add(with, misses+1)
			default:
				for leaver := range 10 {
					if set&(1<<leaver) != 0 {
						add(with&^(1<<leaver), misses+1)
					}
				}
			}
		}
		least = behind
	}
	best := len(trace)
	for _, misses := range least {
		best = min(best, misses)
	}
	return best
}

// depthModel tells the depths by the pages in the order of their last asking.
func depthModel(trace []int) []int {
	var recent, depths []int
	for _, page := range trace {
		at := slices.Index(recent, page)
		if at < 0 {
			depths = append(depths, -1)
		} else {
			depths = append(depths, at+1)
			recent = slices.Delete(recent, at, at+1)
		}
		recent = slices.Insert(recent, 0, page)
	}
	return depths
}
