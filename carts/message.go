package carts

import (
	"strconv"

	"carts/api"
	"carts/digits"
	"carts/piece"
)

// headBytes is how many bytes a head has.
const headBytes = 5

// head is what a message has ahead of its piece, and all that an answer has.
type head struct {
	kind  string // its letter
	from  int    // the replica from which it comes
	to    int    // the replica to which it goes
	count int    // of deltas
}

func (h head) text() string {
	from := strconv.Itoa(h.from)
	to := strconv.Itoa(h.to)
	count := digits.Two(h.count)
	return h.kind + from + to + count
}

// readHead reads a head of whatever letter, and tells whether the text is one.
func readHead(text string) (head, bool) {
	if len(text) != headBytes {
		return head{}, false
	}
	from, good := readReplica(text[1:2])
	if !good {
		return head{}, false
	}
	to, good := readReplica(text[2:3])
	if !good {
		return head{}, false
	}
	count, good := digits.Read(text[3:5])
	if !good {
		return head{}, false
	}
	return head{kind: text[:1], from: from, to: to, count: count}, true
}

// readReplica reads a number that a replica of the greatest cluster has:
// whether this cluster has it is another question, with another error.
func readReplica(text string) (int, bool) {
	replica, good := digits.Read(text)
	if !good || replica >= api.MaxReplicas {
		return 0, false
	}
	return replica, true
}

// readMessage reads a message, and tells whether the text is one.
func readMessage(text string) (head, piece.Piece, bool) {
	if len(text) < headBytes || len(text) > api.MaxText {
		return head{}, piece.Piece{}, false
	}
	h, good := readHead(text[:headBytes])
	if !good {
		return head{}, piece.Piece{}, false
	}
	if h.kind != "I" && h.kind != "F" {
		return head{}, piece.Piece{}, false
	}
	p, good := piece.Read(text[headBytes:])
	if !good {
		return head{}, piece.Piece{}, false
	}
	return h, p, true
}

func messageText(h head, told piece.Piece) string {
	ahead := h.text()
	text := told.Text()
	return ahead + text
}

// isForMe tells whether the head goes to this replica and comes from another
// one of the cluster.
func (x *Replica) isForMe(h head) bool {
	return h.to == x.me && x.isOther(h.from)
}

// isOther tells whether the cluster has such a replica, and it is not this one.
func (x *Replica) isOther(replica int) bool {
	return replica >= 0 && replica < x.n && replica != x.me
}
