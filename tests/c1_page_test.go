package tests

import (
	"math"
	"slices"
	"strings"
	"testing"

	"loop.example/storeofkeys/impl"
)

// eachKey calls f with every key.
func eachKey(f func(key string)) {
	for a := byte('a'); a <= 'z'; a++ {
		f(string([]byte{a}))
		for b := byte('a'); b <= 'z'; b++ {
			f(string([]byte{a, b}))
			for c := byte('a'); c <= 'z'; c++ {
				f(string([]byte{a, b, c}))
			}
		}
	}
}

// TestP1KeysCanBeCut checks every key, and that it may lose its last letter.
func TestP1KeysCanBeCut(t *testing.T) {
	eachKey(func(key string) {
		if !impl.ValidKey(key) {
			t.Errorf("ValidKey(%q) = false", key)
		}
		if cut := key[:len(key)-1]; impl.ValidKey(cut) != (cut != "") {
			t.Errorf("ValidKey(%q) = %v", cut, impl.ValidKey(cut))
		}
	})
	for _, s := range []string{"", "abcd", "aaaaa", "a b", " a", "a ", "é", "ａ", "a=", "A", "aB", "abC", "a\x00", "\xffa", strings.Repeat("a", 99)} {
		if impl.ValidKey(s) {
			t.Errorf("ValidKey(%q) = true", s)
		}
	}
}

// TestP1BytesOfKeys checks every byte at every place of a key.
func TestP1BytesOfKeys(t *testing.T) {
	for size := 1; size <= 3; size++ {
		for at := range size {
			for b := range 256 {
				text := []byte("mno")[:size]
				text[at] = byte(b)
				want := b >= 'a' && b <= 'z'
				if got := impl.ValidKey(string(text)); got != want {
					t.Errorf("ValidKey(%q) = %v", text, got)
				}
			}
		}
	}
}

// TestP2CellsHaveBoth checks cells of keys and values, and of texts that are none.
func TestP2CellsHaveBoth(t *testing.T) {
	keys := []string{"a", "z", "ab", "zz", "abc", "zzz", "", "abcd", "A", "a=", "=", "a.", "`", "{", "1", "é"}
	values := []string{"", "a", "z", "xy", "xyz", "wxyz", "zzzz", "vwxyz", "X", "x=", "x.", "wxy`", "{xyz", " ", "wx\x00z", "é"}
	for i, key := range keys {
		for j, value := range values {
			want := ""
			if i < 6 && j < 7 {
				want = key + "=" + value
			}
			if got := impl.CellOf(key, value); got != want {
				t.Errorf("CellOf(%q, %q) = %q, want %q", key, value, got, want)
			}
		}
	}
	eachKey(func(key string) {
		if got := impl.CellOf(key, "v"); got != key+"=v" {
			t.Errorf("CellOf(%q, v) = %q", key, got)
		}
	})
}

// TestP2BytesOfValues checks every byte at every place of a value.
func TestP2BytesOfValues(t *testing.T) {
	for size := 1; size <= 4; size++ {
		for at := range size {
			for b := range 256 {
				value := []byte("pqrs")[:size]
				value[at] = byte(b)
				want := ""
				if b >= 'a' && b <= 'z' {
					want = "k=" + string(value)
				}
				if got := impl.CellOf("k", string(value)); got != want {
					t.Errorf("CellOf(k, %q) = %q, want %q", value, got, want)
				}
			}
		}
	}
}

// TestValidPage checks pages that are valid, and what every function answers for others.
func TestValidPage(t *testing.T) {
	for _, p := range manyPages(t) {
		if !impl.ValidPage(p) {
			t.Errorf("ValidPage(%v) = false", p)
		}
	}
	for _, p := range wrongPages() {
		if wholePage(p) {
			t.Fatalf("a valid page: %v", p)
		}
		if impl.ValidPage(p) {
			t.Errorf("ValidPage(%v) = true", p)
		}
		if q, ok := impl.TightPage(p); ok || !samePage(q, impl.Page{}) {
			t.Errorf("TightPage(%v) = %v, %v", p, q, ok)
		}
		if q, at, ok := impl.PutCell(p, "a="); ok || at != -1 || !samePage(q, impl.Page{}) {
			t.Errorf("PutCell(%v, a=) = %v, %d, %v", p, q, at, ok)
		}
		for slot := -1; slot <= len(p.Slots); slot++ {
			if q, ok := impl.DropCell(p, slot); ok || !samePage(q, impl.Page{}) {
				t.Errorf("DropCell(%v, %d) = %v, %v", p, slot, q, ok)
			}
		}
		if cells := impl.CellsOf(p); len(cells) != 0 {
			t.Errorf("CellsOf(%v) = %q", p, cells)
		}
		if a, b := impl.SpaceOf(p); a != -1 || b != -1 {
			t.Errorf("SpaceOf(%v) = %d, %d", p, a, b)
		}
	}
}

// TestValidPageOfChangedPages changes pages in one place, and asks an own rule.
func TestValidPageOfChangedPages(t *testing.T) {
	for _, p := range drawnPages() {
		for i := range 48 {
			for _, b := range []byte(".=azA`{ \x00\xff") {
				q := impl.Page{Bytes: p.Bytes[:i] + string([]byte{b}) + p.Bytes[i+1:], Slots: p.Slots}
				if got := impl.ValidPage(q); got != wholePage(q) {
					t.Errorf("ValidPage(%v) = %v", q, got)
				}
			}
		}
		for i := range p.Slots {
			for _, s := range slotsNear(p.Slots[i]) {
				q := copyPage(p)
				q.Slots[i] = s
				if got := impl.ValidPage(q); got != wholePage(q) {
					t.Errorf("ValidPage(%v) = %v", q, got)
				}
			}
		}
		for n := range len(p.Slots) {
			q := impl.Page{Bytes: p.Bytes, Slots: p.Slots[:n]}
			if got := impl.ValidPage(q); got != wholePage(q) {
				t.Errorf("ValidPage(%v) = %v", q, got)
			}
		}
	}
}

// slotsNear returns slots that are a little different from one, or far too large.
func slotsNear(s impl.Slot) []impl.Slot {
	list := []impl.Slot{{}, free, {At: -1, Size: s.Size}, {At: s.At, Size: 0}}
	for _, d := range []int{-48, -2, -1, 1, 2, 48, math.MinInt, math.MaxInt} {
		list = append(list, impl.Slot{At: s.At + d, Size: s.Size}, impl.Slot{At: s.At, Size: s.Size + d}, impl.Slot{At: s.At + d, Size: s.Size - d})
	}
	return list
}

// TestP3TightPagesAreValid checks that pages stay valid made tight, byte by byte.
func TestP3TightPagesAreValid(t *testing.T) {
	for _, p := range manyPages(t) {
		q, ok := impl.TightPage(p)
		if !ok || !impl.ValidPage(q) || !wholePage(q) {
			t.Fatalf("TightPage(%v) = %v, %v", p, q, ok)
		}
		if !slices.Equal(impl.CellsOf(q), impl.CellsOf(p)) || !slices.Equal(cellsOn(q), cellsOn(p)) {
			t.Errorf("TightPage(%v) = %v, with other cells", p, q)
		}
		if want := tightly(cellsOn(p)); !samePage(q, want) {
			t.Errorf("TightPage(%v) = %v, want %v", p, q, want)
		}
	}
}

// TestP3TightPageOfGaps checks one page written out: the first slot is last, free slots stay.
func TestP3TightPageOfGaps(t *testing.T) {
	p := layPage(none, laid{30, "bb=yy"}, none, laid{12, "a=x"}, laid{40, "c="}, none)
	want := impl.Page{
		Bytes: points[:38] + "c=a=xbb=yy",
		Slots: []impl.Slot{free, {At: 43, Size: 5}, free, {At: 40, Size: 3}, {At: 38, Size: 2}, free},
	}
	if q, ok := impl.TightPage(p); !ok || !samePage(q, want) {
		t.Errorf("TightPage = %v, %v, want %v", q, ok, want)
	}
}

// TestP4NewPageIsFree checks the new page.
func TestP4NewPageIsFree(t *testing.T) {
	p := impl.NewPage()
	if p.Bytes != points || len(p.Slots) != 0 || !impl.ValidPage(p) || len(impl.CellsOf(p)) != 0 {
		t.Errorf("NewPage = %v", p)
	}
	if a, b := impl.SpaceOf(p); a != 48 || b != 48 {
		t.Errorf("SpaceOf(NewPage) = %d, %d", a, b)
	}
	if q, ok := impl.TightPage(p); !ok || !samePage(q, p) {
		t.Errorf("TightPage(NewPage) = %v, %v", q, ok)
	}
}

// TestP5TightPagesHaveAllRoomInOnePiece checks the room of tight pages, and that they stay.
func TestP5TightPagesHaveAllRoomInOnePiece(t *testing.T) {
	for _, p := range manyPages(t) {
		q, _ := impl.TightPage(p)
		_, all := impl.SpaceOf(p)
		if a, b := impl.SpaceOf(q); a != all || b != all {
			t.Errorf("SpaceOf(TightPage(%v)) = %d, %d, want %d", p, a, b, all)
		}
		if r, ok := impl.TightPage(q); !ok || !samePage(q, r) {
			t.Errorf("TightPage(%v) = %v, %v", q, r, ok)
		}
	}
}

// cellOfSize returns a cell of a size in 2..8.
func cellOfSize(size int) string {
	return "jkl=pqrs"[max(0, 4-size):][:size]
}

// behindPut returns by the document the page with a cell and its slot, if there is room.
func behindPut(p impl.Page, cell string) (impl.Page, int, bool) {
	slot := slices.Index(p.Slots, free)
	need := 0
	if slot < 0 {
		slot, need = len(p.Slots), 2
	}
	piece, all := roomOf(p)
	if all < len(cell)+need {
		return impl.Page{}, -1, false
	}
	if piece < len(cell)+need {
		p = tightly(cellsOn(p))
		piece = all
	}
	at := 2*len(p.Slots) + piece - len(cell)
	q := impl.Page{Bytes: p.Bytes[:at] + cell + p.Bytes[at+len(cell):]}
	q.Slots = append(append(q.Slots, p.Slots[:slot]...), impl.Slot{At: at, Size: len(cell)})
	if slot < len(p.Slots) {
		q.Slots = append(q.Slots, p.Slots[slot+1:]...)
	}
	return q, slot, true
}

// TestP6CellsArePutWhereThereIsRoom puts cells of every size into all pages.
func TestP6CellsArePutWhereThereIsRoom(t *testing.T) {
	fits := map[bool]int{}
	for _, p := range manyPages(t) {
		for size := 2; size <= 8; size++ {
			cell := cellOfSize(size)
			q, slot, ok := impl.PutCell(p, cell)
			want, at, fine := behindPut(p, cell)
			if ok != fine || slot != at || !samePage(q, want) {
				t.Fatalf("PutCell(%v, %q) = %v, %d, %v, want %v, %d, %v", p, cell, q, slot, ok, want, at, fine)
			}
			fits[ok]++
			if !ok {
				continue
			}
			cells := cellsOn(p)
			if slot == len(cells) {
				cells = append(cells, "")
			}
			cells[slot] = cell
			if !impl.ValidPage(q) || !slices.Equal(impl.CellsOf(q), cells) {
				t.Errorf("PutCell(%v, %q) = %v, want cells %q", p, cell, q, cells)
			}
		}
	}
	if fits[true] < 1000 || fits[false] < 1000 {
		t.Errorf("too few cells that fit, or do not: %v", fits)
	}
}

// TestP6Examples checks puts written out.
func TestP6Examples(t *testing.T) {
	full := []string{"abc=wxyz", "abd=wxyz", "abe=wxyz", "abf=wxyz"}
	tests := []struct {
		name string
		page impl.Page
		cell string
		want impl.Page
		slot int
	}{
		{"into the new page", impl.NewPage(), "ab=xyz", layPage(laid{42, "ab=xyz"}), 0},
		{"behind all slots", layPage(laid{45, "a=x"}), "b=", layPage(laid{45, "a=x"}, laid{43, "b="}), 1},
		{"ahead of the first cell, not of the last one", layPage(laid{20, "a=x"}, laid{45, "c=z"}), "b=", layPage(laid{20, "a=x"}, laid{45, "c=z"}, laid{18, "b="}), 2},
		{"into the first free slot", layPage(laid{45, "a=x"}, none, laid{40, "c="}, none), "b=y", layPage(laid{45, "a=x"}, laid{37, "b=y"}, laid{40, "c="}, none), 1},
		{"into free slots alone", freeSlots(3), "b=y", layPage(laid{45, "b=y"}, none, none), 0},
		{"just up to the new slot", layPage(laid{7, "a=x"}), "b=y", layPage(laid{7, "a=x"}, laid{4, "b=y"}), 1},
		{"one byte too near to the new slot", layPage(laid{6, "a=x"}), "b=y", layPage(laid{45, "a=x"}, laid{42, "b=y"}), 1},
		{"just up to the slots", layPage(laid{7, "a=x"}, none), "b=y", layPage(laid{7, "a=x"}, laid{4, "b=y"}), 1},
		{"tight, free slots stay", layPage(none, laid{9, "c=z"}, laid{12, "a=x"}, none), "b=", layPage(laid{40, "b="}, laid{45, "c=z"}, laid{42, "a=x"}, none), 0},
		{"as large as all", tightly(full), "a=wxyz", tightly(append(full, "a=wxyz")), 4},
		{"as large as all, once tight", layPage(laid{40, full[0]}, laid{10, full[1]}, laid{18, full[2]}, laid{30, full[3]}), "a=wxyz", tightly(append(full, "a=wxyz")), 4},
		{"into many free slots", freeSlots(23), "a=", layPage(append([]laid{{46, "a="}}, slices.Repeat([]laid{none}, 22)...)...), 0},
		{"one byte more than all", tightly(full), "ab=wxyz", impl.Page{}, -1},
		{"no byte is free", fullPages()[0], "a=", impl.Page{}, -1},
		{"a slot is free, but no byte", fullPages()[2], "a=", impl.Page{}, -1},
		{"slots alone fill the page", freeSlots(24), "a=", impl.Page{}, -1},
		{"bytes for the slot, but not for the cell", freeSlots(23), "a=x", impl.Page{}, -1},
	}
	for _, test := range tests {
		got, slot, ok := impl.PutCell(test.page, test.cell)
		if !samePage(got, test.want) || slot != test.slot || ok != (test.slot >= 0) {
			t.Errorf("%s: PutCell(%v, %q) = %v, %d, %v, want %v, %d", test.name, test.page, test.cell, got, slot, ok, test.want, test.slot)
		}
	}
}

// TestP6NoCells checks that only cells are put.
func TestP6NoCells(t *testing.T) {
	for _, s := range []string{"", "a", "=", "=x", "abc", "A=x", "a=X", "abcd=x", "a=vwxyz", "a==x", "a=x=", "a=x.", ".a=x", " a=x", "a=x\n", "é=x", "a=é", "a=b=c"} {
		for _, p := range []impl.Page{impl.NewPage(), freeSlots(2), layPage(laid{20, "a=x"})} {
			if q, slot, ok := impl.PutCell(p, s); ok || slot != -1 || !samePage(q, impl.Page{}) {
				t.Errorf("PutCell(%v, %q) = %v, %d, %v", p, s, q, slot, ok)
			}
		}
	}
}

// TestP7DroppedCellsLeaveTheirRoom drops every slot of all pages, and puts the cells again.
func TestP7DroppedCellsLeaveTheirRoom(t *testing.T) {
	for _, p := range manyPages(t) {
		cells := cellsOn(p)
		for slot, cell := range cells {
			q, ok := impl.DropCell(p, slot)
			if cell == "" {
				if ok || !samePage(q, impl.Page{}) {
					t.Errorf("DropCell(%v, %d) = %v, %v", p, slot, q, ok)
				}
				continue
			}
			if want := behindDrop(p, slot); !ok || !samePage(q, want) || !impl.ValidPage(q) {
				t.Fatalf("DropCell(%v, %d) = %v, %v, want %v", p, slot, q, ok, want)
			}
			if left := withoutCell(cells, slot); !slices.Equal(impl.CellsOf(q), left) {
				t.Errorf("CellsOf(DropCell(%v, %d)) = %q, want %q", p, slot, impl.CellsOf(q), left)
			}
			r, at, ok := impl.PutCell(q, cell)
			if !ok || !slices.Contains(impl.CellsOf(r), cell) || impl.CellsOf(r)[at] != cell {
				t.Errorf("PutCell(%v, %q) = %v, %d, %v", q, cell, r, at, ok)
			}
		}
	}
}

// withoutCell returns cells without one of them, and without free slots at the end.
func withoutCell(cells []string, slot int) []string {
	left := slices.Clone(cells)
	left[slot] = ""
	for len(left) > 0 && left[len(left)-1] == "" {
		left = left[:len(left)-1]
	}
	return left
}

// behindDrop returns by the document the page without the cell of a slot.
func behindDrop(p impl.Page, slot int) impl.Page {
	var list []laid
	for i, cell := range withoutCell(cellsOn(p), slot) {
		list = append(list, laid{p.Slots[i].At, cell})
	}
	return layPage(list...)
}

// TestP7Examples checks drops written out, and slots that there are not.
func TestP7Examples(t *testing.T) {
	p := layPage(laid{20, "a=x"}, none, laid{30, "b=yy"}, laid{40, "ccc=zzzz"}, none, none)
	tests := []struct {
		page impl.Page
		slot int
		want impl.Page
		ok   bool
	}{
		{p, 0, layPage(none, none, laid{30, "b=yy"}, laid{40, "ccc=zzzz"}), true},
		{p, 2, layPage(laid{20, "a=x"}, none, none, laid{40, "ccc=zzzz"}), true},
		{p, 3, layPage(laid{20, "a=x"}, none, laid{30, "b=yy"}), true},
		{layPage(laid{20, "a=x"}, none, laid{30, "b=yy"}), 2, layPage(laid{20, "a=x"}), true},
		{layPage(none, none, laid{30, "b=yy"}, none), 2, layPage(), true},
		{layPage(laid{46, "a="}), 0, layPage(), true},
		{p, 1, impl.Page{}, false},
		{p, 5, impl.Page{}, false},
		{p, 6, impl.Page{}, false},
		{p, -1, impl.Page{}, false},
		{p, math.MaxInt, impl.Page{}, false},
		{p, math.MinInt, impl.Page{}, false},
		{impl.NewPage(), 0, impl.Page{}, false},
		{freeSlots(24), 23, impl.Page{}, false},
	}
	for _, test := range tests {
		got, ok := impl.DropCell(test.page, test.slot)
		if ok != test.ok || !samePage(got, test.want) {
			t.Errorf("DropCell(%v, %d) = %v, %v, want %v, %v", test.page, test.slot, got, ok, test.want, test.ok)
		}
	}
}

// TestP8CellsFillWhatIsNotFree counts cells, slots and free bytes of all pages.
func TestP8CellsFillWhatIsNotFree(t *testing.T) {
	for _, p := range manyPages(t) {
		cells := impl.CellsOf(p)
		if !slices.Equal(cells, cellsOn(p)) {
			t.Errorf("CellsOf(%v) = %q", p, cells)
		}
		_, all := impl.SpaceOf(p)
		if sum := len(strings.Join(cells, "")) + 2*len(cells) + all; sum != 48 {
			t.Errorf("cells, slots and free bytes of %v are %d", p, sum)
		}
	}
}

// TestP8Examples checks cells and room written out.
func TestP8Examples(t *testing.T) {
	tests := []struct {
		page       impl.Page
		cells      []string
		piece, all int
	}{
		{layPage(), nil, 48, 48},
		{freeSlots(1), []string{""}, 46, 46},
		{freeSlots(24), slices.Repeat([]string{""}, 24), 0, 0},
		{layPage(laid{2, "a="}), []string{"a="}, 0, 44},
		{layPage(laid{46, "a="}), []string{"a="}, 44, 44},
		{layPage(none, laid{30, "b=yy"}, laid{12, "a=x"}, none), []string{"", "b=yy", "a=x", ""}, 4, 33},
		{layPage(laid{40, "abc=wxyz"}, laid{10, "abd=wxyz"}, laid{18, "abe=wxyz"}, laid{30, "abf=wxyz"}), []string{"abc=wxyz", "abd=wxyz", "abe=wxyz", "abf=wxyz"}, 2, 8},
		{fullPages()[0], []string{"abc=wxyz", "abd=wxyz", "abe=wxyz", "abf=wxyz", "a=wxyz"}, 0, 0},
		{fullPages()[2], []string{"", "abc=wxyz", "abd=wxyz", "", "abe=wxyz", "abf=wxyz", "", ""}, 0, 0},
	}
	for _, test := range tests {
		if cells := impl.CellsOf(test.page); !slices.Equal(cells, test.cells) {
			t.Errorf("CellsOf(%v) = %q, want %q", test.page, cells, test.cells)
		}
		if a, b := impl.SpaceOf(test.page); a != test.piece || b != test.all {
			t.Errorf("SpaceOf(%v) = %d, %d, want %d, %d", test.page, a, b, test.piece, test.all)
		}
	}
}

// TestP9RoomInOnePieceIsNoMore checks both numbers of SpaceOf of all pages.
func TestP9RoomInOnePieceIsNoMore(t *testing.T) {
	for _, p := range manyPages(t) {
		a, b := impl.SpaceOf(p)
		if a < 0 || a > b {
			t.Errorf("SpaceOf(%v) = %d, %d", p, a, b)
		}
		if piece, all := roomOf(p); a != piece || b != all {
			t.Errorf("SpaceOf(%v) = %d, %d, want %d, %d", p, a, b, piece, all)
		}
	}
}

// TestPagesAreFresh checks that results share no memory with arguments, and that these stay.
func TestPagesAreFresh(t *testing.T) {
	spare := append(make([]impl.Slot, 0, 8), impl.Slot{At: 45, Size: 3}, free, impl.Slot{At: 20, Size: 2}, free)
	p := impl.Page{Bytes: points[:20] + "b=" + points[:23] + "a=x", Slots: spare}
	before := append([]impl.Slot(nil), spare[:8]...)
	results := func() []impl.Page {
		tight, _ := impl.TightPage(p)
		put, _, _ := impl.PutCell(p, "c=z")
		moved, _, _ := impl.PutCell(impl.Page{Bytes: p.Bytes, Slots: p.Slots[:3]}, "d=")
		drop, _ := impl.DropCell(p, 2)
		return []impl.Page{tight, put, moved, drop}
	}
	first, again := results(), results()
	for i, q := range first {
		want := copyPage(q)
		for j := range cap(q.Slots) {
			q.Slots[:cap(q.Slots)][j] = impl.Slot{At: 99, Size: 99}
		}
		if !slices.Equal(spare[:8], before) {
			t.Fatalf("result %d shares memory with its argument", i)
		}
		if !samePage(again[i], want) {
			t.Errorf("result %d is once %v and once %v", i, want, again[i])
		}
	}
	cells := impl.CellsOf(p)
	cells[0] = "z="
	if !slices.Equal(impl.CellsOf(p), []string{"a=x", "", "b=", ""}) {
		t.Errorf("CellsOf = %q", impl.CellsOf(p))
	}
}
