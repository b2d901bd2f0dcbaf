package piece

import (
	"fmt"
	"math"
	"math/rand"
	"sort"
	"strings"
	"testing"

	"carts/api"
)

// plain is a piece as the document words it: a set of dots and a set of
// entries, both as texts.
type plain struct {
	dots    map[string]bool
	entries map[string]bool
}

func newPlain() plain {
	return plain{map[string]bool{}, map[string]bool{}}
}

// joinPlain follows the document's sentence word for word.
func joinPlain(p, q plain) plain {
	j := newPlain()
	for d := range p.dots {
		j.dots[d] = true
	}
	for d := range q.dots {
		j.dots[d] = true
	}
	for e := range p.entries {
		if q.entries[e] || !q.dots[e[2:4]] {
			j.entries[e] = true
		}
	}
	for e := range q.entries {
		if p.entries[e] || !p.dots[e[2:4]] {
			j.entries[e] = true
		}
	}
	return j
}

func rising(set map[string]bool) string {
	var list []string
	for s := range set {
		list = append(list, s)
	}
	sort.Strings(list)
	return strings.Join(list, "")
}

// same compares a piece with a plain one, by all that a piece tells.
func same(t *testing.T, what string, p Piece, want plain) {
	t.Helper()
	if got := p.EntriesText(); got != rising(want.entries) {
		t.Fatalf("%s: entries %q, want %q", what, got, rising(want.entries))
	}
	for r := 0; r < api.MaxReplicas; r++ {
		count := 0
		for k := 1; k <= api.MaxEvents; k++ {
			known := want.dots[fmt.Sprintf("%d%d", r, k)]
			if known {
				count++
			}
			if p.slots[r][k-1].known != known {
				t.Fatalf("%s: dot %d%d: known %v, want %v", what, r, k, !known, known)
			}
		}
		if got := p.Count(r); got != count {
			t.Fatalf("%s: Count(%d) = %d, want %d", what, r, got, count)
		}
	}
}

// random makes a piece and its plain twin; few values, so that two pieces
// often have the same entry of a dot, and often another.
func random(g *rand.Rand) (Piece, plain) {
	var p Piece
	twin := newPlain()
	for r := 0; r < api.MaxReplicas; r++ {
		for k := 1; k <= api.MaxEvents; k++ {
			dot := fmt.Sprintf("%d%d", r, k)
			switch g.Intn(3) {
			case 1:
				p = p.WithDot(r, k)
				twin.dots[dot] = true
			case 2:
				e := Entry{Cart: g.Intn(2), Item: g.Intn(2), Value: -g.Intn(2)}
				p = p.WithEntry(r, k, e)
				twin.dots[dot] = true
				value := "+00"
				if e.Value < 0 {
					value = "-01"
				}
				twin.entries["ab"[e.Cart:e.Cart+1]+"AB"[e.Item:e.Item+1]+dot+value] = true
			}
		}
	}
	return p, twin
}

func TestJoinAsTheDocumentSays(t *testing.T) {
	g := rand.New(rand.NewSource(1))
	for i := 0; i < 3000; i++ {
		p, plainP := random(g)
		q, plainQ := random(g)
		same(t, "one", p, plainP)
		same(t, "joined", Join(p, q), joinPlain(plainP, plainQ))
		if Join(p, q) != Join(q, p) {
			t.Fatal("which piece is joined to which makes a difference")
		}
		if Join(p, p) != p || Join(p, Piece{}) != p || Join(Piece{}, p) != p {
			t.Fatal("joining what is there already changes a piece")
		}
		same(t, "behind Join", p, plainP)
	}
}

func TestJoinByHand(t *testing.T) {
	five := Entry{Cart: 0, Item: 1, Value: 5}
	six := Entry{Cart: 0, Item: 1, Value: 6}
	with := Piece{}.WithEntry(0, 1, five)
	cases := []struct {
		what string
		p, q Piece
		want string
		n    int
	}{
		{"both have it", with, with, "aB01+05", 1},
		{"the other does not know the dot", with, Piece{}, "aB01+05", 1},
		{"the other took it away", with, Piece{}.WithDot(0, 1), "", 1},
		{"the other has another entry", with, Piece{}.WithEntry(0, 1, six), "", 1},
		{"another dot", with, Piece{}.WithEntry(0, 3, six), "aB01+05aB03+06", 2},
	}
	for _, c := range cases {
		for _, j := range []Piece{Join(c.p, c.q), Join(c.q, c.p)} {
			if got := j.EntriesText(); got != c.want || j.Count(0) != c.n {
				t.Errorf("%s: %q, %d dots; want %q, %d", c.what, got, j.Count(0), c.want, c.n)
			}
		}
	}
}

func TestEntriesRise(t *testing.T) {
	var p Piece
	p = p.WithEntry(2, 9, Entry{2, 3, 99})
	p = p.WithEntry(0, 9, Entry{2, 3, -99})
	p = p.WithEntry(0, 1, Entry{2, 3, 0})
	p = p.WithEntry(1, 5, Entry{2, 0, -9})
	p = p.WithEntry(1, 1, Entry{1, 1, 10})
	p = p.WithEntry(2, 1, Entry{0, 2, 9})
	p = p.WithEntry(1, 2, Entry{0, 2, -10})
	want := "aC12-10aC21+09bB11+10cA15-09cD01+00cD09-99cD29+99"
	if got := p.EntriesText(); got != want {
		t.Errorf("%q, want %q", got, want)
	}
}

func TestDotsOfAndSum(t *testing.T) {
	var p Piece
	p = p.WithEntry(0, 1, Entry{0, 0, 5})
	p = p.WithEntry(1, 2, Entry{0, 0, -7})
	p = p.WithEntry(2, 9, Entry{0, 1, 50})
	p = p.WithEntry(2, 8, Entry{1, 0, 50})
	p = p.WithEntry(0, 2, Entry{0, 3, 4})
	p = p.WithEntry(0, 3, Entry{0, 3, -4})
	p = p.WithDot(0, 4)
	if got, want := p.DotsOf(0, 0), (Piece{}).WithDot(0, 1).WithDot(1, 2); got != want {
		t.Errorf("DotsOf(0, 0) = %v", got)
	}
	cases := []struct {
		cart, item, sum int
		found           bool
	}{
		{0, 0, -2, true}, {0, 1, 50, true}, {0, 2, 0, false}, {0, 3, 0, true}, {1, 0, 50, true},
		{2, 0, 0, false}, {-1, 0, 0, false}, {0, -1, 0, false}, {3, 0, 0, false}, {0, 4, 0, false},
		{math.MinInt, math.MaxInt, 0, false},
	}
	for _, c := range cases {
		sum, found := p.Sum(c.cart, c.item)
		if sum != c.sum || found != c.found {
			t.Errorf("Sum(%d, %d) = %d, %v; want %d, %v", c.cart, c.item, sum, found, c.sum, c.found)
		}
		if dots := p.DotsOf(c.cart, c.item); (dots != Piece{}) != c.found {
			t.Errorf("DotsOf(%d, %d) = %v", c.cart, c.item, dots)
		}
	}
}

func TestWrongDotsAndEntriesChangeNothing(t *testing.T) {
	begun := Piece{}.WithEntry(0, 1, Entry{0, 0, 5})
	odd := []int{math.MinInt, -1, 3, 4, 10, 100, math.MaxInt}
	for _, i := range odd {
		if i < 0 || i >= api.MaxReplicas {
			if begun.WithDot(i, 1) != begun || begun.WithEntry(i, 1, Entry{}) != begun || begun.Count(i) != 0 {
				t.Errorf("a dot of replica %d", i)
			}
		}
		if i < 1 || i > api.MaxEvents {
			if begun.WithDot(0, i) != begun || begun.WithEntry(0, i, Entry{}) != begun {
				t.Errorf("a dot of number %d", i)
			}
		}
	}
	if begun.WithDot(0, 0) != begun {
		t.Error("a dot of number 0")
	}
	for _, e := range []Entry{{-1, 0, 0}, {3, 0, 0}, {0, -1, 0}, {0, 4, 0}, {0, 0, 100}, {0, 0, -100}, {0, 0, math.MinInt}} {
		if begun.WithEntry(0, 2, e) != begun {
			t.Errorf("entry %v", e)
		}
	}
	if begun.WithDot(0, 1) != begun {
		t.Error("a dot that was there takes its entry away")
	}
	if ItemLetter(-1) != "" || ItemLetter(4) != "" || cartLetter(-1) != "" || cartLetter(3) != "" {
		t.Error("a letter of nothing")
	}
}
