// Package piece: sets of dots and their entries, and how one is joined to another.
package piece

import "carts/api"

// Entry is what one event laid into a cart; its dot is told beside it.
type Entry struct {
	Cart  int
	Item  int
	Value int
}

// slot is what a piece has of one dot. A slot that is not known is zero, and
// so is the entry of one that is not filled: equal slots say the same.
type slot struct {
	known  bool
	filled bool
	entry  Entry
}

// Piece has one slot for each dot there can be, so that every entry's dot is
// one of its dots and no two entries have the same. The zero Piece is empty.
type Piece struct {
	slots [api.MaxReplicas][api.MaxEvents]slot
}

// WithDot answers the piece with a dot more; what is no dot changes nothing.
func (p Piece) WithDot(replica int, number int) Piece {
	if !isDot(replica, number) {
		return p
	}
	p.slots[replica][number-1].known = true
	return p
}

// WithEntry answers the piece with a dot and its entry, in place of what it
// had of that dot; what is no dot or no entry changes nothing.
func (p Piece) WithEntry(replica int, number int, entry Entry) Piece {
	if !isDot(replica, number) {
		return p
	}
	if !isEntry(entry) {
		return p
	}
	p.slots[replica][number-1] = slot{known: true, filled: true, entry: entry}
	return p
}

// Count tells how many dots of a replica the piece has.
func (p Piece) Count(replica int) int {
	if replica < 0 || replica >= api.MaxReplicas {
		return 0
	}
	count := 0
	for i := 0; i < api.MaxEvents; i++ {
		if p.slots[replica][i].known {
			count++
		}
	}
	return count
}

// Size tells how many dots the piece has.
func (p Piece) Size() int {
	size := 0
	for r := 0; r < api.MaxReplicas; r++ {
		size += p.Count(r)
	}
	return size
}

// HasHole tells whether the piece has a dot but not the one with the number
// ahead.
func (p Piece) HasHole() bool {
	for r := 0; r < api.MaxReplicas; r++ {
		for i := 1; i < api.MaxEvents; i++ {
			if p.slots[r][i].known && !p.slots[r][i-1].known {
				return true
			}
		}
	}
	return false
}

// DotsOf answers a piece without entries: the dots of all entries that the
// piece has of an item in a cart.
func (p Piece) DotsOf(cart int, item int) Piece {
	var dots Piece
	for r := 0; r < api.MaxReplicas; r++ {
		for i := 0; i < api.MaxEvents; i++ {
			if p.slots[r][i].isOf(cart, item) {
				dots.slots[r][i].known = true
			}
		}
	}
	return dots
}

// Sum adds the values of all entries of an item in a cart, and tells whether
// there is one: entries may also sum to 0.
func (p Piece) Sum(cart int, item int) (int, bool) {
	sum := 0
	found := false
	for r := 0; r < api.MaxReplicas; r++ {
		for i := 0; i < api.MaxEvents; i++ {
			if p.slots[r][i].isOf(cart, item) {
				sum += p.slots[r][i].entry.Value
				found = true
			}
		}
	}
	return sum, found
}

// Join joins a piece to another.
func Join(p Piece, q Piece) Piece {
	var joined Piece
	for r := 0; r < api.MaxReplicas; r++ {
		for i := 0; i < api.MaxEvents; i++ {
			joined.slots[r][i] = joinSlots(p.slots[r][i], q.slots[r][i])
		}
	}
	return joined
}

// joinSlots leaves out an entry whose dot the other knows without it: there
// it was taken away.
func joinSlots(a slot, b slot) slot {
	if !a.known {
		return b
	}
	if !b.known || a == b {
		return a
	}
	return slot{known: true}
}

// Clash tells whether two pieces have different entries of the same dot. A
// dot without an entry is at odds with none: there it was taken away.
func Clash(p Piece, q Piece) bool {
	for r := 0; r < api.MaxReplicas; r++ {
		for i := 0; i < api.MaxEvents; i++ {
			a := p.slots[r][i]
			b := q.slots[r][i]
			if a.filled && b.filled && a.entry != b.entry {
				return true
			}
		}
	}
	return false
}

// isOf tells whether the slot has an entry of that item in that cart.
func (s slot) isOf(cart int, item int) bool {
	return s.filled && s.entry.Cart == cart && s.entry.Item == item
}

func isDot(replica int, number int) bool {
	return replica >= 0 && replica < api.MaxReplicas && number >= 1 && number <= api.MaxEvents
}

func isEntry(entry Entry) bool {
	if entry.Cart < 0 || entry.Cart >= api.Carts {
		return false
	}
	if entry.Item < 0 || entry.Item >= api.Items {
		return false
	}
	return entry.Value >= -api.MaxValue && entry.Value <= api.MaxValue
}
