package tests

import (
	"slices"
	"testing"

	"loop.example/storeofkeys/impl"
)

// TestP10PoolsMayBeCold checks that a valid pool is valid with every hand.
func TestP10PoolsMayBeCold(t *testing.T) {
	manyPools(func(p impl.Pool) {
		if !wholePool(p) {
			t.Fatalf("not a valid pool: %v", p)
		}
		if !impl.ValidPool(p) {
			t.Errorf("ValidPool(%v) = false", p)
		}
		p.Hand = (p.Hand + 1) % len(p.Frames)
		if !impl.ValidPool(p) {
			t.Errorf("ValidPool(%v) = false", p)
		}
	})
}

// TestP10PoolsOfAllPages checks every page beside every other one, and pools by hand.
func TestP10PoolsOfAllPages(t *testing.T) {
	for a := -3; a <= 12; a++ {
		for b := -3; b <= 12; b++ {
			for pins := -1; pins <= 4; pins++ {
				for hand := -1; hand <= 2; hand++ {
					for _, p := range []impl.Pool{poolOf(hand, kept(a, pins), cool(b, 0)), poolOf(hand, cool(a, 0), cool(b, pins))} {
						if got := impl.ValidPool(p); got != wholePool(p) {
							t.Errorf("ValidPool(%v) = %v", p, got)
						}
					}
				}
			}
		}
	}
	for _, p := range []impl.Pool{
		poolOf(0, cold),
		poolOf(0, cool(0, 3)),
		poolOf(0, kept(9, 0)),
		poolOf(4, cold, cold, cold, cold, cold),
		poolOf(4, kept(9, 3), cool(8, 3), kept(7, 3), cool(6, 3), kept(0, 3)),
		poolOf(2, cold, kept(3, 1), cold, cool(4, 0)),
		poolOf(0, impl.Frame{}),
	} {
		if !impl.ValidPool(p) {
			t.Errorf("ValidPool(%v) = false", p)
		}
	}
}

// TestPoolsThatAreNotValid checks what every function answers for them.
func TestPoolsThatAreNotValid(t *testing.T) {
	for _, p := range wrongPools() {
		if wholePool(p) {
			t.Fatalf("a valid pool: %v", p)
		}
		if impl.ValidPool(p) {
			t.Errorf("ValidPool(%v) = true", p)
		}
		for page := -1; page <= 10; page++ {
			if q, kind, ok := impl.FetchPage(p, page); ok || kind != -1 || !samePool(q, impl.Pool{}) {
				t.Errorf("FetchPage(%v, %d) = %v, %d, %v", p, page, q, kind, ok)
			}
			if q, ok := impl.LeavePage(p, page); ok || !samePool(q, impl.Pool{}) {
				t.Errorf("LeavePage(%v, %d) = %v, %v", p, page, q, ok)
			}
		}
	}
}

// TestP11NewPoolTakesPages checks new pools, and fills them.
func TestP11NewPoolTakesPages(t *testing.T) {
	for n := 1; n <= 5; n++ {
		p := impl.NewPool(n)
		if want := poolOf(0, slices.Repeat([]impl.Frame{cold}, n)...); !samePool(p, want) || !impl.ValidPool(p) {
			t.Fatalf("NewPool(%d) = %v", n, p)
		}
		for page := range 10 {
			q, kind, ok := impl.FetchPage(p, page)
			if !ok || kind != 1 || q.Frames[0] != kept(page, 1) || q.Hand != 1%n || !slices.Equal(q.Frames[1:], p.Frames[1:]) {
				t.Errorf("FetchPage(%v, %d) = %v, %d, %v", p, page, q, kind, ok)
			}
		}
		for i := range n {
			q, kind, ok := impl.FetchPage(p, 9-i)
			if !ok || kind != 1 || q.Frames[i] != kept(9-i, 1) {
				t.Fatalf("FetchPage(%v, %d) = %v, %d, %v", p, 9-i, q, kind, ok)
			}
			p = q
		}
		if q, kind, ok := impl.FetchPage(p, 0); ok || kind != -1 || !samePool(q, impl.Pool{}) {
			t.Errorf("FetchPage(%v, 0) = %v, %d, %v", p, q, kind, ok)
		}
	}
	for _, n := range notFrames {
		if p := impl.NewPool(n); !samePool(p, impl.Pool{}) {
			t.Errorf("NewPool(%d) = %v", n, p)
		}
	}
}

// pinnedStay checks that pages with pins are where they were, with as many, but for a page with one more.
func pinnedStay(before, after impl.Pool, page int) bool {
	for i, f := range before.Frames {
		if f.Page == page {
			f.Pins++
			f.Warm = true
		}
		if f.Pins > 0 && after.Frames[i] != f {
			return false
		}
	}
	return true
}

// TestP12WhatIsPinnedStays fetches pages that are there, and others, into all pools.
func TestP12WhatIsPinnedStays(t *testing.T) {
	kinds := map[int]int{}
	manyPools(func(p impl.Pool) {
		for page := range 10 {
			if page > 3*len(p.Frames) {
				break
			}
			q, kind, ok := impl.FetchPage(p, page)
			want, done, fine := behindFetch(p, page)
			if ok != fine || kind != done || !samePool(q, want) {
				t.Fatalf("FetchPage(%v, %d) = %v, %d, %v, want %v, %d, %v", p, page, q, kind, ok, want, done, fine)
			}
			kinds[kind]++
			at := whereIs(p, page)
			may := at >= 0 && p.Frames[at].Pins < 3 || at < 0 && slices.ContainsFunc(p.Frames, func(f impl.Frame) bool { return f.Pins == 0 })
			if ok != may {
				t.Errorf("FetchPage(%v, %d) is %v", p, page, ok)
			}
			if ok && (!impl.ValidPool(q) || whereIs(q, page) < 0 || !pinnedStay(p, q, page)) {
				t.Errorf("FetchPage(%v, %d) = %v", p, page, q)
			}
		}
	})
	for kind := -1; kind <= 2; kind++ {
		if kinds[kind] < 1000 {
			t.Errorf("too few of a kind: %v", kinds)
		}
	}
}

// TestP12Examples checks fetches written out.
func TestP12Examples(t *testing.T) {
	tests := []struct {
		name string
		pool impl.Pool
		page int
		want impl.Pool
		kind int
	}{
		{"one frame, free", poolOf(0, cold), 4, poolOf(0, kept(4, 1)), 1},
		{"one frame, cool", poolOf(0, cool(3, 0)), 4, poolOf(0, kept(4, 1)), 2},
		{"one frame, warm, in the second round", poolOf(0, kept(3, 0)), 4, poolOf(0, kept(4, 1)), 2},
		{"one frame, with a pin", poolOf(0, cool(3, 1)), 4, impl.Pool{}, -1},
		{"one frame, there", poolOf(0, cool(3, 0)), 3, poolOf(0, kept(3, 1)), 0},
		{"one frame, there, with pins", poolOf(0, cool(3, 2)), 3, poolOf(0, kept(3, 3)), 0},
		{"one frame, there, with all pins", poolOf(0, kept(3, 3)), 3, impl.Pool{}, -1},
		{"the hand stays for a page that is there", poolOf(1, kept(3, 0), kept(4, 1), cold), 3, poolOf(1, kept(3, 1), kept(4, 1), cold), 0},
		{"there, though all have pins", poolOf(1, kept(3, 1), cool(4, 1)), 3, poolOf(1, kept(3, 2), cool(4, 1)), 0},
		{"from the hand on, not from the first frame on", poolOf(1, cold, cool(4, 0), cold), 5, poolOf(2, cold, kept(5, 1), cold), 2},
		{"a page makes room ahead of a free frame", poolOf(0, cool(4, 0), cold), 5, poolOf(1, kept(5, 1), cold), 2},
		{"warm ones up to it are warm no more, those behind it are", poolOf(0, kept(1, 0), cool(2, 0), kept(3, 0)), 5, poolOf(2, cool(1, 0), kept(5, 1), kept(3, 0)), 2},
		{"round the end", poolOf(2, cool(1, 0), kept(2, 0), kept(3, 0)), 5, poolOf(1, kept(5, 1), kept(2, 0), cool(3, 0)), 2},
		{"the last frame, and the hand is the first one", poolOf(2, cold, cold, cold), 5, poolOf(0, cold, cold, kept(5, 1)), 1},
		{"all warm", poolOf(1, kept(1, 0), kept(2, 0), kept(3, 0)), 5, poolOf(2, cool(1, 0), kept(5, 1), cool(3, 0)), 2},
		{"frames with pins stay warm, or not", poolOf(0, kept(1, 1), cool(2, 2), kept(3, 0), kept(4, 3)), 5, poolOf(3, kept(1, 1), cool(2, 2), kept(5, 1), kept(4, 3)), 2},
		{"the last one without pins is behind the hand", poolOf(3, kept(1, 1), kept(2, 0), cool(3, 1), kept(4, 1), cool(0, 1)), 9, poolOf(2, kept(1, 1), kept(9, 1), cool(3, 1), kept(4, 1), cool(0, 1)), 2},
		{"all have pins", poolOf(2, kept(1, 1), cool(2, 2), kept(3, 3)), 5, impl.Pool{}, -1},
		{"five frames that all have pins", poolOf(0, cool(0, 1), cool(1, 1), cool(2, 1), cool(3, 1), cool(4, 1)), 9, impl.Pool{}, -1},
	}
	for _, test := range tests {
		got, kind, ok := impl.FetchPage(test.pool, test.page)
		if !samePool(got, test.want) || kind != test.kind || ok != (kind >= 0) {
			t.Errorf("%s: FetchPage(%v, %d) = %v, %d, %v, want %v, %d", test.name, test.pool, test.page, got, kind, ok, test.want, test.kind)
		}
	}
}

// TestP12NoPages checks that only pages are fetched and left.
func TestP12NoPages(t *testing.T) {
	for _, p := range []impl.Pool{poolOf(0, cold), poolOf(1, cold, kept(3, 1)), poolOf(0, kept(0, 1), cool(9, 1))} {
		for _, page := range notPages {
			if q, kind, ok := impl.FetchPage(p, page); ok || kind != -1 || !samePool(q, impl.Pool{}) {
				t.Errorf("FetchPage(%v, %d) = %v, %d, %v", p, page, q, kind, ok)
			}
			if q, ok := impl.LeavePage(p, page); ok || !samePool(q, impl.Pool{}) {
				t.Errorf("LeavePage(%v, %d) = %v, %v", p, page, q, ok)
			}
		}
	}
}

// TestP13WhatIsLeftIsStillThere leaves every page of all pools, and fetches it again.
func TestP13WhatIsLeftIsStillThere(t *testing.T) {
	manyPools(func(p impl.Pool) {
		for page := range 10 {
			q, ok := impl.LeavePage(p, page)
			at := whereIs(p, page)
			if at < 0 || p.Frames[at].Pins == 0 {
				if ok || !samePool(q, impl.Pool{}) {
					t.Errorf("LeavePage(%v, %d) = %v, %v", p, page, q, ok)
				}
				continue
			}
			want := copyOfPool(p)
			want.Frames[at].Pins--
			if !ok || !samePool(q, want) || !impl.ValidPool(q) {
				t.Fatalf("LeavePage(%v, %d) = %v, %v", p, page, q, ok)
			}
			want.Frames[at] = kept(page, p.Frames[at].Pins)
			if r, kind, ok := impl.FetchPage(q, page); !ok || kind != 0 || !samePool(r, want) {
				t.Errorf("FetchPage(%v, %d) = %v, %d, %v", q, page, r, kind, ok)
			}
		}
	})
}

// TestP13Examples checks what is left, written out.
func TestP13Examples(t *testing.T) {
	tests := []struct {
		pool impl.Pool
		page int
		want impl.Pool
		ok   bool
	}{
		{poolOf(0, kept(3, 1)), 3, poolOf(0, kept(3, 0)), true},
		{poolOf(0, cool(3, 3)), 3, poolOf(0, cool(3, 2)), true},
		{poolOf(1, kept(3, 1), kept(4, 2), cold), 4, poolOf(1, kept(3, 1), kept(4, 1), cold), true},
		{poolOf(0, kept(3, 0)), 3, impl.Pool{}, false},
		{poolOf(0, kept(3, 1)), 4, impl.Pool{}, false},
		{poolOf(0, cold), 0, impl.Pool{}, false},
		{poolOf(0, cold), -1, impl.Pool{}, false},
	}
	for _, test := range tests {
		got, ok := impl.LeavePage(test.pool, test.page)
		if ok != test.ok || !samePool(got, test.want) {
			t.Errorf("LeavePage(%v, %d) = %v, %v, want %v, %v", test.pool, test.page, got, ok, test.want, test.ok)
		}
	}
}

// TestP14ClocksMissNoLessThanTheBest checks the clock of every number of frames.
func TestP14ClocksMissNoLessThanTheBest(t *testing.T) {
	manyTraces(func(trace []int) {
		pages := different(trace)
		for n := 1; n <= 5; n++ {
			got := impl.ClockMisses(n, trace)
			if want := clockModel(n, trace); got != want {
				t.Fatalf("ClockMisses(%d, %v) = %d, want %d", n, trace, got, want)
			}
			if got < impl.BestMisses(n, trace) || got < pages || pages <= n && got != pages {
				t.Errorf("ClockMisses(%d, %v) = %d of %d pages", n, trace, got, pages)
			}
		}
	})
}

// TestP15MissesOfTheOldestAreDepths counts the depths that are deeper than the frames.
func TestP15MissesOfTheOldestAreDepths(t *testing.T) {
	manyTraces(func(trace []int) {
		depths := impl.DepthsOf(trace)
		ahead := len(trace)
		for n := 1; n <= 5; n++ {
			got := impl.OldMisses(n, trace)
			deeper := 0
			for _, depth := range depths {
				if depth == -1 || depth > n {
					deeper++
				}
			}
			if got != deeper || got != oldModel(n, trace) {
				t.Fatalf("OldMisses(%d, %v) = %d, want %d, %d", n, trace, got, deeper, oldModel(n, trace))
			}
			if got > ahead {
				t.Errorf("OldMisses(%d, %v) = %d, with one frame fewer %d", n, trace, got, ahead)
			}
			ahead = got
		}
	})
}

// TestP16DepthsAreAtMostDifferentPages checks the depths of all traces.
func TestP16DepthsAreAtMostDifferentPages(t *testing.T) {
	manyTraces(func(trace []int) {
		depths := impl.DepthsOf(trace)
		if want := depthModel(trace); !slices.Equal(depths, want) {
			t.Fatalf("DepthsOf(%v) = %v, want %v", trace, depths, want)
		}
		pages, never := different(trace), 0
		for _, depth := range depths {
			if depth == -1 {
				never++
			} else if depth < 1 || depth > pages {
				t.Errorf("DepthsOf(%v) has %d", trace, depth)
			}
		}
		if never != pages {
			t.Errorf("DepthsOf(%v) = %v, of %d pages", trace, depths, pages)
		}
	})
}

// TestP16Examples checks depths written out.
func TestP16Examples(t *testing.T) {
	tests := []struct{ trace, want []int }{
		{nil, nil},
		{[]int{0}, []int{-1}},
		{[]int{9, 9, 9}, []int{-1, 1, 1}},
		{[]int{1, 2, 2, 2, 1}, []int{-1, -1, 1, 1, 2}},
		{[]int{1, 2, 3, 2, 3, 1, 1}, []int{-1, -1, -1, 2, 2, 3, 1}},
		{[]int{0, 1, 2, 3, 4, 5, 6, 7, 8, 9, 0}, []int{-1, -1, -1, -1, -1, -1, -1, -1, -1, -1, 10}},
	}
	for _, test := range tests {
		if got := impl.DepthsOf(test.trace); !slices.Equal(got, test.want) {
			t.Errorf("DepthsOf(%v) = %v, want %v", test.trace, got, test.want)
		}
	}
}

// TestP17TheBestIsNoWorse checks the best against every choice of what makes room.
func TestP17TheBestIsNoWorse(t *testing.T) {
	manyTraces(func(trace []int) {
		ahead := len(trace)
		for n := 1; n <= 5; n++ {
			got := impl.BestMisses(n, trace)
			if want := leastModel(n, trace); got != want {
				t.Fatalf("BestMisses(%d, %v) = %d, want %d", n, trace, got, want)
			}
			if got > ahead || got < different(trace) || got > impl.OldMisses(n, trace) {
				t.Errorf("BestMisses(%d, %v) = %d, with one frame fewer %d", n, trace, got, ahead)
			}
			ahead = got
			if len(trace) == 0 {
				continue
			}
			if cut := impl.BestMisses(n, trace[:len(trace)-1]); cut > got || cut < got-1 {
				t.Errorf("BestMisses(%d, %v) = %d, without the last page %d", n, trace, got, cut)
			}
		}
	})
}

// TestMissesExamples checks misses written out: the clock, the oldest, the best.
func TestMissesExamples(t *testing.T) {
	classic := []int{1, 2, 3, 4, 1, 2, 5, 1, 2, 3, 4, 5}
	rounds := slices.Repeat([]int{0, 1, 2, 3, 4, 5}, 5)
	tests := []struct {
		n                int
		trace            []int
		clock, old, best int
	}{
		{1, nil, 0, 0, 0},
		{5, []int{}, 0, 0, 0},
		{1, []int{9}, 1, 1, 1},
		{1, []int{3, 3, 3}, 1, 1, 1},
		{1, []int{3, 4, 3, 4, 4}, 4, 4, 4},
		{2, []int{3, 4, 3, 4, 4}, 2, 2, 2},
		{3, classic, 9, 10, 7},
		{4, classic, 10, 8, 6},
		{5, classic, 5, 5, 5},
		{5, rounds, 30, 30, 10},
		{2, []int{1, 2, 1, 3, 1, 2}, 5, 4, 4},
	}
	for _, test := range tests {
		clock, old, best := impl.ClockMisses(test.n, test.trace), impl.OldMisses(test.n, test.trace), impl.BestMisses(test.n, test.trace)
		if clock != test.clock || old != test.old || best != test.best {
			t.Errorf("misses of %d frames and %v are %d, %d, %d, want %d, %d, %d", test.n, test.trace, clock, old, best, test.clock, test.old, test.best)
		}
	}
}

// TestMissesOfWrongArguments checks traces and frames that there may not be.
func TestMissesOfWrongArguments(t *testing.T) {
	counts := []struct {
		name  string
		count func(int, []int) int
	}{{"ClockMisses", impl.ClockMisses}, {"OldMisses", impl.OldMisses}, {"BestMisses", impl.BestMisses}}
	for _, c := range counts {
		for _, n := range notFrames {
			for _, trace := range [][]int{nil, {1}, {1, 2, 1}, {10}} {
				if got := c.count(n, trace); got != -1 {
					t.Errorf("%s(%d, %v) = %d", c.name, n, trace, got)
				}
			}
		}
		for n := 1; n <= 5; n++ {
			for _, trace := range wrongTraces() {
				if got := c.count(n, trace); got != -1 {
					t.Errorf("%s(%d, %v) = %d", c.name, n, trace, got)
				}
			}
			if got := c.count(n, make([]int, 30)); got != 1 {
				t.Errorf("%s(%d, the page 0 30 times) = %d", c.name, n, got)
			}
		}
	}
	for _, trace := range wrongTraces() {
		if got := impl.DepthsOf(trace); len(got) != 0 {
			t.Errorf("DepthsOf(%v) = %v", trace, got)
		}
	}
}

// TestPoolsAreFresh checks that results share no memory with arguments, and that these stay.
func TestPoolsAreFresh(t *testing.T) {
	spare := append(make([]impl.Frame, 0, 8), kept(1, 0), kept(2, 1), cool(3, 0))
	p := poolOf(0, spare...)
	before := slices.Clone(spare[:8])
	results := func() []impl.Pool {
		there, _, _ := impl.FetchPage(p, 2)
		room, _, _ := impl.FetchPage(p, 7)
		left, _ := impl.LeavePage(p, 2)
		return []impl.Pool{there, room, left, impl.NewPool(3)}
	}
	first, again := results(), results()
	for i, q := range first {
		want := copyOfPool(again[i])
		for j := range cap(q.Frames) {
			q.Frames[:cap(q.Frames)][j] = kept(99, 99)
		}
		if !slices.Equal(spare[:8], before) || p.Hand != 0 {
			t.Fatalf("result %d shares memory with its argument", i)
		}
		if !samePool(again[i], want) {
			t.Errorf("result %d shares memory with that of another call", i)
		}
	}
}

// TestTracesStay checks that traces are not changed, and that depths share no memory with them.
func TestTracesStay(t *testing.T) {
	trace := append(make([]int, 0, 12), 1, 2, 3, 1, 4, 5, 2, 1)
	before := slices.Clone(trace[:12])
	impl.ClockMisses(2, trace)
	impl.OldMisses(2, trace)
	impl.BestMisses(2, trace)
	depths := impl.DepthsOf(trace)
	for i := range cap(depths) {
		depths[:cap(depths)][i] = 77
	}
	if !slices.Equal(trace[:12], before) {
		t.Errorf("the trace is now %v", trace[:12])
	}
	if got := impl.DepthsOf(trace); !slices.Equal(got, []int{-1, -1, -1, 3, -1, -1, 5, 4}) {
		t.Errorf("DepthsOf(%v) = %v", trace, got)
	}
}
