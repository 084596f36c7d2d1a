package tests

import (
	"math"
	"slices"
	"strings"
	"testing"

	"loop.example/storeofkeys/impl"
)

// points is a page of points alone, written out.
const points = "................................................"

// free is a slot without a cell.
var free = impl.Slot{At: -1, Size: 0}

// laid is a cell at its place, or a free slot if it has no cell.
type laid struct {
	at   int
	cell string
}

// none is a free slot of layPage.
var none = laid{at: -1}

// layPage writes a page byte by byte, without the functions under test.
func layPage(cells ...laid) impl.Page {
	bytes := []byte(points)
	var slots []impl.Slot
	for _, c := range cells {
		if c.cell == "" {
			slots = append(slots, free)
			continue
		}
		for i := range len(c.cell) {
			bytes[c.at+i] = c.cell[i]
		}
		slots = append(slots, impl.Slot{At: c.at, Size: len(c.cell)})
	}
	return impl.Page{Bytes: string(bytes), Slots: slots}
}

// freeSlots returns a page without cells and with some free slots.
func freeSlots(n int) impl.Page {
	return layPage(slices.Repeat([]laid{none}, n)...)
}

// wholeKey tells by the document what a key is.
func wholeKey(s string) bool {
	return len(s) >= 1 && len(s) <= 3 && strings.Trim(s, "abcdefghijklmnopqrstuvwxyz") == ""
}

// wholeCell tells by the document what a cell is.
func wholeCell(s string) bool {
	at := strings.IndexByte(s, '=')
	if at < 0 || len(s)-at-1 > 4 || !wholeKey(s[:at]) {
		return false
	}
	return strings.Trim(s[at+1:], "abcdefghijklmnopqrstuvwxyz") == ""
}

// wholePage tells by the document what a valid page is: each byte has an owner.
func wholePage(p impl.Page) bool {
	if len(p.Bytes) != 48 || len(p.Slots) > 24 {
		return false
	}
	var owned [48]bool
	for _, s := range p.Slots {
		if s == free {
			continue
		}
		if s.At < 2*len(p.Slots) || s.At > 47 || s.Size < 1 || s.Size > 48-s.At || !wholeCell(p.Bytes[s.At:s.At+s.Size]) {
			return false
		}
		for i := range s.Size {
			if owned[s.At+i] {
				return false
			}
			owned[s.At+i] = true
		}
	}
	for i, is := range owned {
		if !is && p.Bytes[i] != '.' {
			return false
		}
	}
	return true
}

// cellsOn returns the cells of a valid page.
func cellsOn(p impl.Page) []string {
	var cells []string
	for _, s := range p.Slots {
		if s == free {
			cells = append(cells, "")
		} else {
			cells = append(cells, p.Bytes[s.At:s.At+s.Size])
		}
	}
	return cells
}

// tightly returns the page on which cells stand as TightPage leaves them.
func tightly(cells []string) impl.Page {
	var list []laid
	end := 48
	for _, c := range cells {
		end -= len(c)
		list = append(list, laid{end, c})
	}
	return layPage(list...)
}

// roomOf counts the free bytes of a valid page: in one piece, and all.
func roomOf(p impl.Page) (int, int) {
	piece := 0
	for i := 2 * len(p.Slots); i < 48 && p.Bytes[i] == '.'; i++ {
		piece++
	}
	return piece, strings.Count(p.Bytes[2*len(p.Slots):], ".")
}

// samePage reports whether two pages are the same.
func samePage(a, b impl.Page) bool {
	return a.Bytes == b.Bytes && slices.Equal(a.Slots, b.Slots)
}

// copyPage returns a page that shares nothing with another one.
func copyPage(p impl.Page) impl.Page {
	return impl.Page{Bytes: strings.Clone(p.Bytes), Slots: append([]impl.Slot(nil), p.Slots...)}
}

// fullPages returns pages of which no byte is free.
func fullPages() []impl.Page {
	return []impl.Page{
		tightly([]string{"abc=wxyz", "abd=wxyz", "abe=wxyz", "abf=wxyz", "a=wxyz"}),
		tightly([]string{"a=", "b=", "c=", "d=", "e=", "f=", "g=", "h=", "i=", "j=", "k=", "l="}),
		tightly([]string{"", "abc=wxyz", "abd=wxyz", "", "abe=wxyz", "abf=wxyz", "", ""}),
	}
}

// drawnPages returns pages by hand: without cells, full, with gaps, with free slots.
func drawnPages() []impl.Page {
	return append([]impl.Page{
		layPage(),
		freeSlots(1),
		freeSlots(23),
		freeSlots(24),
		layPage(laid{46, "a="}),
		layPage(laid{2, "a="}),
		layPage(laid{4, "abc=wxyz"}, none),
		layPage(none, laid{46, "a="}),
		layPage(laid{20, "a=x"}, none, laid{30, "b=yy"}, none, none),
		layPage(laid{8, "a=x"}, laid{11, "zzz=zzzz"}, laid{46, "b="}),
		layPage(none, none, laid{6, "ab=c"}),
		layPage(laid{40, "abc=wxyz"}, laid{10, "abd=wxyz"}, laid{18, "abe=wxyz"}, laid{30, "abf=wxyz"}),
		layPage(laid{10, "a="}, laid{12, "a="}, laid{44, "a=zz"}, none, none),
	}, fullPages()...)
}

// word returns some letters.
func word(next func(int) int, size int) string {
	letters := make([]byte, size)
	for i := range letters {
		letters[i] = byte('a' + next(26))
	}
	return string(letters)
}

// walkedPages returns the pages of a fixed walk of puts and drops.
func walkedPages() []impl.Page {
	seed := uint32(7)
	next := func(n int) int {
		seed = seed*1664525 + 1013904223
		return int(seed>>16) % n
	}
	var pages []impl.Page
	p := layPage()
	for range 1500 {
		if next(5) < 3 || len(p.Slots) == 0 {
			cell := word(next, 1+next(3)) + "=" + word(next, next(5))
			if q, _, ok := impl.PutCell(p, cell); ok {
				p = q
			}
		} else if q, ok := impl.DropCell(p, next(len(p.Slots))); ok {
			p = q
		}
		pages = append(pages, p)
	}
	return pages
}

// manyPages returns all pages on which the promises are tried.
func manyPages(t *testing.T) []impl.Page {
	t.Helper()
	pages := append(drawnPages(), walkedPages()...)
	for _, p := range pages {
		if !wholePage(p) {
			t.Fatalf("not a valid page: %v", p)
		}
	}
	return pages
}

// wrongPages returns pages that are not valid, each for one reason.
func wrongPages() []impl.Page {
	with := func(bytes string, slots ...impl.Slot) impl.Page {
		return impl.Page{Bytes: bytes, Slots: slots}
	}
	cell := points[:45] + "a=x"
	return []impl.Page{
		{},
		with(points[:47]),
		with(points + "."),
		with(strings.Repeat("\x00", 48)),
		with(strings.Repeat(" ", 48)),
		freeSlots(25),
		with(cell),
		with(cell, impl.Slot{At: 45, Size: 2}),
		with(cell, impl.Slot{At: 44, Size: 4}),
		with(cell, impl.Slot{At: 46, Size: 2}),
		with(cell, impl.Slot{At: 45, Size: 4}),
		with(cell, impl.Slot{At: 45, Size: 3}, impl.Slot{At: 45, Size: 3}),
		with(cell, impl.Slot{At: 45, Size: 3}, impl.Slot{At: 45, Size: 2}),
		with(cell, impl.Slot{At: 45, Size: 3}, impl.Slot{At: 10, Size: 0}),
		with(cell, impl.Slot{At: 45, Size: 3}, impl.Slot{}),
		with(cell, impl.Slot{At: 45, Size: 3}, impl.Slot{At: -1, Size: 1}),
		with(cell, impl.Slot{At: 45, Size: 3}, impl.Slot{At: -2, Size: 0}),
		with(cell, impl.Slot{At: 45, Size: 3}, impl.Slot{At: -2, Size: 3}),
		with(cell, impl.Slot{At: 45, Size: -3}),
		with(cell, impl.Slot{At: 48, Size: 0}),
		with(cell, impl.Slot{At: 48, Size: -3}),
		with(cell, impl.Slot{At: 45, Size: math.MaxInt}),
		with(cell, impl.Slot{At: 45, Size: math.MinInt}),
		with(cell, impl.Slot{At: math.MaxInt, Size: 3}),
		with(cell, impl.Slot{At: math.MaxInt, Size: math.MaxInt}),
		with(cell, impl.Slot{At: math.MinInt, Size: 3}),
		with(cell, impl.Slot{At: math.MinInt, Size: math.MinInt}),
		with(points[:10]+"#"+points[:34]+"a=x", impl.Slot{At: 45, Size: 3}),
		with(points[:10]+"b="+points[:33]+"a=x", impl.Slot{At: 45, Size: 3}),
		with(points[:45]+"A=x", impl.Slot{At: 45, Size: 3}),
		with(points[:45]+"=xy", impl.Slot{At: 45, Size: 3}),
		with(points[:45]+"a.x", impl.Slot{At: 45, Size: 3}),
		with(points[:45]+"abc", impl.Slot{At: 45, Size: 3}),
		with(points[:45]+"a=.", impl.Slot{At: 45, Size: 3}),
		with(points[:39]+"a=vwxyz"+"..", impl.Slot{At: 39, Size: 7}),
		with(points[:39]+"abcd=xyz"+".", impl.Slot{At: 39, Size: 8}),
		with(points[:1]+"a=x"+points[:44], impl.Slot{At: 1, Size: 3}),
		with("a=x"+points[:45], impl.Slot{At: 0, Size: 3}),
		with(points[:3]+"a=x"+points[:42], impl.Slot{At: 3, Size: 3}, free),
		with(points[:40]+"ab=xa=yy", impl.Slot{At: 40, Size: 5}, impl.Slot{At: 43, Size: 5}),
	}
}
