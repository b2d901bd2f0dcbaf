package carts

import (
	"carts/api"
	"carts/piece"
)

func isCart(cart int) bool {
	return cart >= 0 && cart < api.Carts
}

// isPlace tells whether there is such a cart and such an item.
func isPlace(cart int, item int) bool {
	if item < 0 || item >= api.Items {
		return false
	}
	return isCart(cart)
}

// checkToken answers ErrToken, ErrStale or OK (P5).
func (x *Replica) checkToken(token string) api.Errno {
	if !x.isToken(token) {
		return api.ErrToken
	}
	for r := 0; r < len(token); r++ {
		seen := int(token[r] - '0')
		if seen > x.held.Count(r) {
			return api.ErrStale
		}
	}
	return api.OK
}

func (x *Replica) isToken(token string) bool {
	if len(token) != x.n {
		return false
	}
	for i := 0; i < len(token); i++ {
		if token[i] < '0' || token[i] > '9' {
			return false
		}
	}
	return true
}

// checkEvent answers why there can be no event with this token, or OK. The
// order is the document's: a token is looked at before room for an event.
func (x *Replica) checkEvent(token string) api.Errno {
	errno := x.checkToken(token)
	if errno != api.OK {
		return errno
	}
	if x.held.Count(x.me) >= api.MaxEvents {
		return api.ErrFull
	}
	return api.OK
}

// checkPiece answers why a piece that was read may not be joined to what is
// held, or OK. The order is that of P10; a log asks for the same (P9).
func (x *Replica) checkPiece(p piece.Piece) api.Errno {
	if !x.isOfCluster(p) {
		return api.ErrWho
	}
	joined := piece.Join(x.held, p)
	if joined.HasHole() {
		return api.ErrGap
	}
	if piece.Clash(x.held, p) {
		return api.ErrClash
	}
	return api.OK
}

// isOfCluster tells whether the piece has dots of the cluster's replicas alone.
func (x *Replica) isOfCluster(p piece.Piece) bool {
	for r := x.n; r < api.MaxReplicas; r++ {
		if p.Count(r) > 0 {
			return false
		}
	}
	return true
}
