package carts

import (
	"carts/api"
	"carts/digits"
	"carts/piece"
)

// lengthBytes is how many bytes of a frame tell its length.
const lengthBytes = 3

// frame writes a frame. The longest there can be, `S` with a piece of all
// dots and an entry of each, has 247 bytes: three digits are enough.
func frame(body string) string {
	length := digits.Three(len(body))
	return length + body
}

func deltaFrame(delta piece.Piece) string {
	text := delta.Text()
	return frame("D" + text)
}

func wholeFrame(had int, held piece.Piece) string {
	count := digits.Two(had)
	text := held.Text()
	return frame("S" + count + text)
}

// readLog reads a log into a new replica, and tells whether it is one. An end
// that was cut short is no fault: it is what a replica leaves that stopped
// while it wrote.
func (x *Replica) readLog(log string) bool {
	at := 0
	for len(log)-at >= lengthBytes {
		begin := at + lengthBytes
		length, good := digits.Read(log[at:begin])
		if !good {
			return false
		}
		if length > len(log)-begin {
			return true
		}
		end := begin + length
		if !x.readFrame(log[begin:end], at == 0) {
			return false
		}
		at = end
	}
	return true
}

// readFrame takes in what a frame tells behind its length, and tells whether
// it may stand there.
func (x *Replica) readFrame(body string, first bool) bool {
	if body == "" {
		return false
	}
	switch body[0] {
	case 'D':
		return x.readDelta(body[1:])
	case 'S':
		if first {
			return x.readWhole(body[1:])
		}
	}
	return false
}

func (x *Replica) readDelta(text string) bool {
	delta, good := piece.Read(text)
	if !good {
		return false
	}
	if x.checkPiece(delta) != api.OK {
		return false
	}
	if !x.hasNews(delta) {
		return false
	}
	x.takeIn(delta)
	return true
}

func (x *Replica) readWhole(text string) bool {
	if len(text) < 2 {
		return false
	}
	had, good := digits.Read(text[:2])
	if !good {
		return false
	}
	whole, good := piece.Read(text[2:])
	if !good {
		return false
	}
	if x.checkPiece(whole) != api.OK {
		return false
	}
	if had > whole.Size() {
		return false
	}
	x.held = whole
	x.had = had
	x.Compact()
	return true
}
