package impl

import "strings"

// PageSize is how many bytes a page has.
const PageSize = 48

// SlotSize is how many bytes of a page a slot takes.
const SlotSize = 2

// MaxKey is the largest number of letters of a key.
const MaxKey = 3

// MaxValue is the largest number of letters of a value.
const MaxValue = 4

// point is the byte that stands where no cell is.
const point = '.'

// freeAt is the place of a slot without a cell.
const freeAt = -1

// Slot is where a cell is.
type Slot struct {
	At   int
	Size int
}

// Page is bytes with cells.
type Page struct {
	Bytes string
	Slots []Slot
}

// pageBytes is the bytes of a page on which cells are laid.
type pageBytes [PageSize]byte

// pointBytes returns the bytes of a page without cells.
func pointBytes() pageBytes {
	var bytes pageBytes
	for i := range bytes {
		bytes[i] = point
	}
	return bytes
}

// room returns the bytes that a slot takes. Its capacity ends with it, so
// that nothing laid there can reach the next cell.
func (b *pageBytes) room(s Slot) []byte {
	end := s.At + s.Size
	return b[s.At:end:end]
}

// isFree reports whether a slot has no cell.
func (s Slot) isFree() bool {
	return s == Slot{At: freeAt}
}

// fitsBehind reports whether a slot is on the page, from some byte on. Asking
// for the size first, and taking it from PageSize, nothing can wrap around.
func (s Slot) fitsBehind(first int) bool {
	return s.Size >= 0 && s.At >= first && s.At <= PageSize-s.Size
}

// lettersOnly reports whether a text has only letters from a up to z.
func lettersOnly(s string) bool {
	for i := range len(s) {
		if s[i] < 'a' || s[i] > 'z' {
			return false
		}
	}
	return true
}

// ValidKey reports whether a text is a key.
func ValidKey(s string) bool {
	return s != "" && len(s) <= MaxKey && lettersOnly(s)
}

// validValue reports whether a text is a value.
func validValue(s string) bool {
	return len(s) <= MaxValue && lettersOnly(s)
}

// CellOf returns the cell of a key and a value.
func CellOf(key string, value string) string {
	if !ValidKey(key) || !validValue(value) {
		return ""
	}
	return key + "=" + value
}

// isCell reports whether a text is the cell of a key and a value.
func isCell(s string) bool {
	key, value, found := strings.Cut(s, "=")
	return found && CellOf(key, value) != ""
}

// pointsOnly reports whether no cell is on some bytes.
func pointsOnly(room []byte) bool {
	for _, b := range room {
		if b != point {
			return false
		}
	}
	return true
}

// ValidPage reports whether a page is valid.
func ValidPage(p Page) bool {
	if len(p.Bytes) != PageSize || SlotSize*len(p.Slots) > PageSize {
		return false
	}
	bytes := pointBytes()
	for _, s := range p.Slots {
		if s.isFree() {
			continue
		}
		if !s.fitsBehind(SlotSize*len(p.Slots)) || !isCell(p.Bytes[s.At:s.At+s.Size]) {
			return false
		}
		room := bytes.room(s)
		if !pointsOnly(room) {
			return false
		}
		copy(room, p.Bytes[s.At:])
	}
	return string(bytes[:]) == p.Bytes
}

// NewPage returns a page without cells.
func NewPage() Page {
	bytes := pointBytes()
	return Page{Bytes: string(bytes[:])}
}

// copySlots returns some slots, with free ones behind them up to count.
func copySlots(slots []Slot, count int) []Slot {
	fresh := make([]Slot, count)
	for i := copy(fresh, slots); i < count; i++ {
		fresh[i] = Slot{At: freeAt}
	}
	return fresh
}

// firstByte returns where the first one of all cells begins, or the page ends.
func firstByte(slots []Slot) int {
	first := PageSize
	for _, s := range slots {
		if !s.isFree() {
			first = min(first, s.At)
		}
	}
	return first
}

// freeSlot returns the first free slot, or the one behind all if there is none.
func freeSlot(slots []Slot) int {
	for i, s := range slots {
		if s.isFree() {
			return i
		}
	}
	return len(slots)
}

// usedSlots returns how many slots there are up to the last one with a cell.
func usedSlots(slots []Slot) int {
	count := len(slots)
	for count > 0 && slots[count-1].isFree() {
		count--
	}
	return count
}

// TightPage returns a page with all cells at its end.
func TightPage(p Page) (Page, bool) {
	if !ValidPage(p) {
		return Page{}, false
	}
	bytes := pointBytes()
	slots := copySlots(p.Slots, len(p.Slots))
	end := PageSize
	for i, s := range slots {
		if s.isFree() {
			continue
		}
		end -= s.Size
		slots[i].At = end
		copy(bytes.room(slots[i]), p.Bytes[s.At:])
	}
	return Page{Bytes: string(bytes[:]), Slots: slots}, true
}

// PutCell returns a page with one more cell.
func PutCell(p Page, cell string) (Page, int, bool) {
	if !ValidPage(p) || !isCell(cell) {
		return Page{}, -1, false
	}
	slot := freeSlot(p.Slots)
	count := max(len(p.Slots), slot+1)
	at := firstByte(p.Slots) - len(cell)
	if at < SlotSize*count {
		p, _ = TightPage(p)
		at = firstByte(p.Slots) - len(cell)
	}
	if at < SlotSize*count {
		return Page{}, -1, false
	}
	slots := copySlots(p.Slots, count)
	slots[slot] = Slot{At: at, Size: len(cell)}
	return Page{Bytes: p.Bytes[:at] + cell + p.Bytes[at+len(cell):], Slots: slots}, slot, true
}

// DropCell returns a page without a cell.
func DropCell(p Page, slot int) (Page, bool) {
	if !ValidPage(p) || slot < 0 || slot >= len(p.Slots) || p.Slots[slot].isFree() {
		return Page{}, false
	}
	s := p.Slots[slot]
	slots := copySlots(p.Slots, len(p.Slots))
	slots[slot] = Slot{At: freeAt}
	points := strings.Repeat(string(point), s.Size)
	bytes := p.Bytes[:s.At] + points + p.Bytes[s.At+s.Size:]
	return Page{Bytes: bytes, Slots: slots[:usedSlots(slots)]}, true
}

// CellsOf returns the cells of a page.
func CellsOf(p Page) []string {
	if !ValidPage(p) {
		return nil
	}
	cells := make([]string, len(p.Slots))
	for i, s := range p.Slots {
		if !s.isFree() {
			cells[i] = p.Bytes[s.At : s.At+s.Size]
		}
	}
	return cells
}

// SpaceOf returns how many bytes of a page are free.
func SpaceOf(p Page) (int, int) {
	if !ValidPage(p) {
		return -1, -1
	}
	slotBytes := SlotSize * len(p.Slots)
	all := PageSize - slotBytes
	for _, s := range p.Slots {
		all -= s.Size
	}
	return firstByte(p.Slots) - slotBytes, all
}
