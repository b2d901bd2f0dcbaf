package carts

import (
	"strconv"

	"carts/api"
	"carts/piece"
)

// learn takes a delta in and remembers it. All that a replica learns from
// clients and from others goes through here.
func (x *Replica) learn(delta piece.Piece) {
	x.takeIn(delta)
	x.remember(delta)
}

// takeIn joins a delta to what the replica holds, and writes it on the log. It
// is apart from learn, since what Open reads is not remembered.
func (x *Replica) takeIn(delta piece.Piece) {
	x.held = piece.Join(x.held, delta)
	x.had++
	x.log += deltaFrame(delta)
}

// remember keeps a delta for messages; the oldest is forgotten where there is
// no room for one more.
func (x *Replica) remember(delta piece.Piece) {
	for i := api.MaxDeltas - 1; i > 0; i-- {
		x.recent[i] = x.recent[i-1]
	}
	x.recent[0] = delta
	if x.kept < api.MaxDeltas {
		x.kept++
	}
}

// lastDeltas joins so many of the last deltas, in their order. Whoever asks
// sees to it that they are remembered.
func (x *Replica) lastDeltas(count int) piece.Piece {
	var joined piece.Piece
	for i := api.MaxDeltas - 1; i >= 0; i-- {
		if i < count {
			joined = piece.Join(joined, x.recent[i])
		}
	}
	return joined
}

// hasNews tells whether the piece has a dot that is not known here.
func (x *Replica) hasNews(p piece.Piece) bool {
	joined := piece.Join(x.held, p)
	known := x.held.Size()
	return joined.Size() > known
}

// putEvent makes an event that takes away the entries of the dots taken and
// lays an entry of its own.
func (x *Replica) putEvent(token string, taken piece.Piece, entry piece.Entry) (string, api.Errno) {
	errno := x.checkEvent(token)
	if errno != api.OK {
		return "", errno
	}
	number := x.nextNumber()
	delta := taken.WithEntry(x.me, number, entry)
	x.learn(delta)
	return x.counts(), api.OK
}

// takeEvent makes an event that takes away the entries of the dots taken and
// lays none.
func (x *Replica) takeEvent(token string, taken piece.Piece) (string, api.Errno) {
	errno := x.checkEvent(token)
	if errno != api.OK {
		return "", errno
	}
	number := x.nextNumber()
	delta := taken.WithDot(x.me, number)
	x.learn(delta)
	return x.counts(), api.OK
}

// counts writes a digit for each replica of the cluster: how many of its
// events are known. It begins State, and is the token that calls answer.
func (x *Replica) counts() string {
	text := ""
	for r := 0; r < x.n; r++ {
		count := x.held.Count(r)
		text += strconv.Itoa(count)
	}
	return text
}

// nextNumber is that of the next event here. What is held has no hole, so
// the last known number is how many are known.
func (x *Replica) nextNumber() int {
	known := x.held.Count(x.me)
	return known + 1
}

// dotsOfCart answers the dots of all entries of a cart.
func (x *Replica) dotsOfCart(cart int) piece.Piece {
	var all piece.Piece
	for item := 0; item < api.Items; item++ {
		dots := x.held.DotsOf(cart, item)
		all = piece.Join(all, dots)
	}
	return all
}

// sums writes what a cart has: the letter and the sum of each item that has
// an entry.
func (x *Replica) sums(cart int) string {
	text := ""
	for item := 0; item < api.Items; item++ {
		sum, found := x.held.Sum(cart, item)
		if !found {
			continue
		}
		if text != "" {
			text += ","
		}
		text += piece.ItemLetter(item)
		text += strconv.Itoa(sum)
	}
	return text
}
