// Package digits: numbers as texts write them, with a set count of digits.
package digits

import "strconv"

// MaxWidth is the most digits that a number in a text has (a frame's length);
// Read takes no more, so that no text makes a number too great to tell.
const MaxWidth = 3

// Read reads a text that is digits alone, and tells whether it is.
func Read(text string) (int, bool) {
	if len(text) < 1 || len(text) > MaxWidth {
		return 0, false
	}
	number := 0
	for i := 0; i < len(text); i++ {
		if text[i] < '0' || text[i] > '9' {
			return 0, false
		}
		number = number*10 + int(text[i]-'0')
	}
	return number, true
}

// Two writes a number of 0 to 99 with two digits.
func Two(number int) string {
	text := strconv.Itoa(number)
	return fill(text, 2)
}

// Three writes a number of 0 to 999 with three digits.
func Three(number int) string {
	text := strconv.Itoa(number)
	return fill(text, 3)
}

func fill(text string, width int) string {
	for len(text) < width {
		text = "0" + text
	}
	return text
}
