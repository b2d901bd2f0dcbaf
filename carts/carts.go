// Package carts: one replica of a store of shopping carts: see DOC.md.
package carts

import (
	"carts/api"
	"carts/piece"
)

// Replica is one of a cluster.
type Replica struct {
	me     int                        // its number in the cluster
	n      int                        // how many replicas the cluster has
	held   piece.Piece                // the events that it knows and what is in the carts; without holes
	had    int                        // how many deltas it has had; each brought a dot, so no more than held has
	log    string                     // its frames, one behind the other
	recent [api.MaxDeltas]piece.Piece // the deltas that it remembers, the last one first
	kept   int                        // how many it remembers
	acked  [api.MaxReplicas]int       // up to which number each other replica has acknowledged; no more than had
}

// New makes a replica without events (P3).
func New(me int, n int) (*Replica, api.Errno) {
	if n < 1 || n > api.MaxReplicas || me < 0 || me >= n {
		return nil, api.ErrArg
	}
	return &Replica{me: me, n: n}, api.OK
}

// State writes what the replica holds (P4).
func (x *Replica) State() string {
	counts := x.counts()
	entries := x.held.EntriesText()
	return counts + ";" + entries
}

// Add adds to what a cart has of an item (P6).
func (x *Replica) Add(token string, cart int, item int, value int) (string, api.Errno) {
	if !isPlace(cart, item) || value < -api.MaxValue || value > api.MaxValue {
		return "", api.ErrArg
	}
	entry := piece.Entry{Cart: cart, Item: item, Value: value}
	return x.putEvent(token, piece.Piece{}, entry)
}

// Set sets what a cart has of an item (P6).
func (x *Replica) Set(token string, cart int, item int, value int) (string, api.Errno) {
	if !isPlace(cart, item) || value < 0 || value > api.MaxValue {
		return "", api.ErrArg
	}
	entry := piece.Entry{Cart: cart, Item: item, Value: value}
	taken := x.held.DotsOf(cart, item)
	return x.putEvent(token, taken, entry)
}

// Remove takes an item out of a cart (P6).
func (x *Replica) Remove(token string, cart int, item int) (string, api.Errno) {
	if !isPlace(cart, item) {
		return "", api.ErrArg
	}
	taken := x.held.DotsOf(cart, item)
	return x.takeEvent(token, taken)
}

// Clear takes all items out of a cart (P6).
func (x *Replica) Clear(token string, cart int) (string, api.Errno) {
	if !isCart(cart) {
		return "", api.ErrArg
	}
	taken := x.dotsOfCart(cart)
	return x.takeEvent(token, taken)
}

// Read tells what a cart has (P7).
func (x *Replica) Read(token string, cart int) (string, string, api.Errno) {
	if !isCart(cart) {
		return "", "", api.ErrArg
	}
	errno := x.checkToken(token)
	if errno != api.OK {
		return "", "", errno
	}
	sums := x.sums(cart)
	seen := x.counts()
	return sums, seen, api.OK
}

// Log writes what the replica has on its disk (P8).
func (x *Replica) Log() string {
	return x.log
}

// Compact makes the log short (P8).
func (x *Replica) Compact() {
	x.log = wholeFrame(x.had, x.held)
}

// Open makes a replica out of a log (P9).
func Open(me int, n int, log string) (*Replica, api.Errno) {
	x, errno := New(me, n)
	if errno != api.OK {
		return nil, errno
	}
	if len(log) > api.MaxLog {
		return nil, api.ErrLog
	}
	if !x.readLog(log) {
		return nil, api.ErrLog
	}
	return x, api.OK
}

// Take takes a message and answers it (P10).
func (x *Replica) Take(message string) (string, api.Errno) {
	h, told, good := readMessage(message)
	if !good {
		return "", api.ErrText
	}
	if !x.isForMe(h) {
		return "", api.ErrWho
	}
	errno := x.checkPiece(told)
	if errno != api.OK {
		return "", errno
	}
	if x.hasNews(told) {
		x.learn(told)
	}
	answer := head{kind: "A", from: x.me, to: h.from, count: h.count}
	return answer.text(), api.OK
}

// Ship writes a message to another replica (P11).
func (x *Replica) Ship(to int) (string, api.Errno) {
	if !x.isOther(to) {
		return "", api.ErrArg
	}
	untold := x.had - x.acked[to]
	if untold == 0 {
		return "", api.OK
	}
	h := head{kind: "F", from: x.me, to: to, count: x.had}
	told := x.held
	if untold <= x.kept {
		h.kind = "I"
		told = x.lastDeltas(untold)
	}
	return messageText(h, told), api.OK
}

// Acked takes what another replica answered (P12).
func (x *Replica) Acked(answer string) api.Errno {
	h, good := readHead(answer)
	if !good || h.kind != "A" {
		return api.ErrText
	}
	if !x.isForMe(h) {
		return api.ErrWho
	}
	if h.count > x.had {
		return api.ErrSeq
	}
	if h.count > x.acked[h.from] {
		x.acked[h.from] = h.count
	}
	return api.OK
}
