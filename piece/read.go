package piece

import "carts/digits"

const (
	dotBytes   = 2
	entryBytes = 7
)

// Read reads a piece, and tells whether the text is one. Each piece is
// written in one way alone, so what was gathered is written again: a text
// with something left out, moved, doubled or misspelt is not what comes out.
func Read(text string) (Piece, bool) {
	p := gather(text)
	if p.Text() != text {
		return Piece{}, false
	}
	return p, true
}

// gather takes the dots and entries that it can find where they should stand.
func gather(text string) Piece {
	var p Piece
	end := dotsEnd(text)
	for i := 0; i+dotBytes <= end; i += dotBytes {
		p = p.withDotText(text[i : i+dotBytes])
	}
	for i := end + 1; i+entryBytes <= len(text); i += entryBytes {
		p = p.withEntryText(text[i : i+entryBytes])
	}
	return p
}

// dotsEnd tells how many bytes there are ahead of the first semicolon.
func dotsEnd(text string) int {
	for i := 0; i < len(text); i++ {
		if text[i] == ';' {
			return i
		}
	}
	return len(text)
}

func (p Piece) withDotText(text string) Piece {
	dot, good := digits.Read(text)
	if !good {
		return p
	}
	return p.WithDot(dot/10, dot%10)
}

func (p Piece) withEntryText(text string) Piece {
	if len(text) != entryBytes {
		return p
	}
	dot, good := digits.Read(text[2:4])
	if !good {
		return p
	}
	value, good := digits.Read(text[5:7])
	if !good {
		return p
	}
	if text[4] == '-' {
		value = -value
	}
	entry := Entry{Cart: int(text[0]) - 'a', Item: int(text[1]) - 'A', Value: value}
	return p.WithEntry(dot/10, dot%10, entry)
}
