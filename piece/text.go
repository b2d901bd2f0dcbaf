package piece

import (
	"strconv"

	"carts/api"
	"carts/digits"
)

// Text writes the piece: its dots, a semicolon, its entries.
func (p Piece) Text() string {
	dots := p.dotsText()
	entries := p.EntriesText()
	return dots + ";" + entries
}

// dotsText writes the dots, rising.
func (p Piece) dotsText() string {
	text := ""
	for r := 0; r < api.MaxReplicas; r++ {
		for i := 0; i < api.MaxEvents; i++ {
			if p.slots[r][i].known {
				text += dotText(r, i+1)
			}
		}
	}
	return text
}

// EntriesText writes the entries, rising. Carts, items and dots rise in their
// texts as in their numbers, so going through them in order needs no sorting.
func (p Piece) EntriesText() string {
	text := ""
	for cart := 0; cart < api.Carts; cart++ {
		for item := 0; item < api.Items; item++ {
			text += p.itemText(cart, item)
		}
	}
	return text
}

// itemText writes the entries of one item in one cart, rising.
func (p Piece) itemText(cart int, item int) string {
	text := ""
	for r := 0; r < api.MaxReplicas; r++ {
		for i := 0; i < api.MaxEvents; i++ {
			if p.slots[r][i].isOf(cart, item) {
				text += entryText(r, i+1, p.slots[r][i].entry)
			}
		}
	}
	return text
}

func entryText(replica int, number int, entry Entry) string {
	cart := cartLetter(entry.Cart)
	item := ItemLetter(entry.Item)
	dot := dotText(replica, number)
	value := valueText(entry.Value)
	return cart + item + dot + value
}

func dotText(replica int, number int) string {
	maker := strconv.Itoa(replica)
	count := strconv.Itoa(number)
	return maker + count
}

// valueText writes a sign and two digits.
func valueText(value int) string {
	sign := "+"
	size := value
	if value < 0 {
		sign = "-"
		size = -value
	}
	return sign + digits.Two(size)
}

// cartLetter is the letter of a cart in texts; of what is no cart, nothing.
func cartLetter(cart int) string {
	if cart < 0 || cart >= api.Carts {
		return ""
	}
	return string([]byte{byte('a' + cart)})
}

// ItemLetter is the letter of an item in texts; of what is no item, nothing.
func ItemLetter(item int) string {
	if item < 0 || item >= api.Items {
		return ""
	}
	return string([]byte{byte('A' + item)})
}
