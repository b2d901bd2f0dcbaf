package carts

import (
	"fmt"
	"math/rand"
	"sort"
	"strings"
	"testing"

	"carts/api"
	"carts/piece"
)

func cluster(n int) []*Replica {
	var xs []*Replica
	for i := 0; i < n; i++ {
		x, _ := New(i, n)
		xs = append(xs, x)
	}
	return xs
}

func is(t *testing.T, what, got, want string) {
	t.Helper()
	if got != want {
		t.Fatalf("%s: %q, want %q", what, got, want)
	}
}

func told(s string, e api.Errno) string { return fmt.Sprintf("%s %d", s, e) }

// The document's examples of clients' calls. Where they carry a message, what
// the one holds is joined to what the other holds.
func TestExamples(t *testing.T) {
	xs := cluster(3)
	x0, x1, x2 := xs[0], xs[1], xs[2]
	is(t, "State", x0.State(), "000;")
	is(t, "Add", told(x0.Add("000", 0, 0, 5)), "100 0")
	is(t, "Add", told(x0.Add("000", 0, 1, -2)), "200 0")
	is(t, "State", x0.State(), "200;aA01+05aB02-02")
	x1.learn(x0.held)
	is(t, "Set", told(x1.Set("200", 0, 0, 3)), "210 0")
	is(t, "Add", told(x0.Add("210", 0, 0, 1)), " 3")
	is(t, "Add", told(x0.Add("000", 0, 0, 1)), "300 0")
	is(t, "State", x1.State(), "210;aA11+03aB02-02")
	x0.learn(x1.held)
	sums, token, e := x0.Read("210", 0)
	is(t, "Read", sums+" "+told(token, e), "A4,B-2 310 0")
	is(t, "State", x0.State(), "310;aA03+01aA11+03aB02-02")
	x2.learn(x0.held)
	is(t, "Clear", told(x0.Clear("000", 0)), "410 0")
	x2.learn(x0.held)
	is(t, "State", x2.State(), "410;")
	is(t, "Add", told(x2.Add("310", 2, 3, 7)), "411 0")
}

// P6: an event's number goes on behind the last of its own that it knows,
// though it was told of it: here a new replica 0 that learns what 1 knows.
func TestNumberBehindLearntOnes(t *testing.T) {
	x, _ := New(0, 2)
	var learnt piece.Piece
	learnt = learnt.WithDot(0, 1)
	learnt = learnt.WithEntry(0, 2, piece.Entry{Cart: 0, Item: 0, Value: 5})
	learnt = learnt.WithDot(1, 1)
	x.learn(learnt)
	is(t, "Add", told(x.Add("21", 0, 1, 6)), "31 0")
	is(t, "State", x.State(), "31;aA02+05aB03+06")
}

// P6: events of others do not fill a replica up, its own do, told or made.
func TestFullOfOwnAlone(t *testing.T) {
	var nine piece.Piece
	for k := 1; k <= api.MaxEvents; k++ {
		nine = nine.WithDot(1, k)
	}
	for me := 0; me < 2; me++ {
		x, _ := New(me, 2)
		x.learn(nine)
		want := []string{"19 0", " 4"}[me]
		is(t, "Add", told(x.Add("09", 0, 0, 1)), want)
	}
}

// P7: the greatest and the least sum there can be.
func TestGreatestSum(t *testing.T) {
	for _, value := range []int{api.MaxValue, -api.MaxValue} {
		var all piece.Piece
		for r := 0; r < api.MaxReplicas; r++ {
			for k := 1; k <= api.MaxEvents; k++ {
				all = all.WithEntry(r, k, piece.Entry{Cart: 2, Item: 3, Value: value})
			}
		}
		x, _ := New(2, 3)
		x.learn(all)
		sums, token, e := x.Read("999", 2)
		is(t, "Read", sums+" "+told(token, e), fmt.Sprintf("D%d 999 0", 27*value))
	}
}

// paper is a replica as the document words it: sets of texts.
type paper struct {
	me, n   int
	dots    map[string]bool
	entries map[string]bool
}

func (p *paper) join(dots, entries map[string]bool) {
	kept := map[string]bool{}
	for e := range p.entries {
		kept[e] = entries[e] || !dots[e[2:4]]
	}
	for e := range entries {
		kept[e] = p.entries[e] || !p.dots[e[2:4]]
	}
	p.entries = map[string]bool{}
	for e, stays := range kept {
		if stays {
			p.entries[e] = true
		}
	}
	for d := range dots {
		p.dots[d] = true
	}
}

func (p *paper) digits() string {
	text := ""
	for r := 0; r < p.n; r++ {
		count := 0
		for d := range p.dots {
			if d[:1] == fmt.Sprint(r) {
				count++
			}
		}
		text += fmt.Sprint(count)
	}
	return text
}

func (p *paper) state() string {
	var list []string
	for e := range p.entries {
		list = append(list, e)
	}
	sort.Strings(list)
	return p.digits() + ";" + strings.Join(list, "")
}

// event makes the event whose entry begins with lay ("" for none), and takes
// away the entries that begin with take ("" for none).
func (p *paper) event(token, take, lay string, value int) string {
	for r := 0; r < p.n; r++ {
		if token[r] > p.digits()[r] {
			return " 3"
		}
	}
	own := p.digits()[p.me]
	if own == '9' {
		return " 4"
	}
	dot := fmt.Sprintf("%d%c", p.me, own+1)
	dots := map[string]bool{dot: true}
	for e := range p.entries {
		if take != "" && strings.HasPrefix(e, take) {
			dots[e[2:4]] = true
		}
	}
	entries := map[string]bool{}
	if lay != "" {
		entries[fmt.Sprintf("%s%s%+03d", lay, dot, value)] = true
	}
	p.join(dots, entries)
	return p.digits() + " 0"
}

func (p *paper) read(cart string) string {
	var list []string
	for _, item := range []string{"A", "B", "C", "D"} {
		sum, found := 0, false
		for e := range p.entries {
			if strings.HasPrefix(e, cart+item) {
				var value int
				fmt.Sscanf(e[4:], "%d", &value)
				sum, found = sum+value, true
			}
		}
		if found {
			list = append(list, fmt.Sprintf("%s%d", item, sum))
		}
	}
	return strings.Join(list, ",")
}

// step makes one call on the replica and on the paper alike.
func step(t *testing.T, g *rand.Rand, x *Replica, p *paper) {
	t.Helper()
	cart, item, value := g.Intn(2), g.Intn(2), g.Intn(199)-99
	at := "abc"[cart:cart+1] + "ABCD"[item:item+1]
	token := p.digits()
	if g.Intn(3) == 0 {
		token = fmt.Sprintf("%03d", g.Intn(1000))[3-p.n:]
	}
	switch g.Intn(8) {
	case 0, 1, 2, 3:
		is(t, "Add", told(x.Add(token, cart, item, value)), p.event(token, "", at, value))
	case 4, 5:
		value = g.Intn(100)
		is(t, "Set", told(x.Set(token, cart, item, value)), p.event(token, at, at, value))
	case 6:
		is(t, "Remove", told(x.Remove(token, cart, item)), p.event(token, at, "", 0))
	case 7:
		is(t, "Clear", told(x.Clear(token, cart)), p.event(token, at[:1], "", 0))
	}
	is(t, "State", x.State(), p.state())
	sums, digits, e := x.Read(p.digits(), cart)
	is(t, "Read", sums+" "+told(digits, e), p.read(at[:1])+" "+p.digits()+" 0")
}

// P4 to P7: replicas that make events and learn what the others hold do what
// the document's words do on paper, and in the end all hold the same.
func TestAsOnPaper(t *testing.T) {
	g := rand.New(rand.NewSource(2))
	for round := 0; round < 400; round++ {
		n := 1 + g.Intn(3)
		xs := cluster(n)
		var ps []*paper
		for i := 0; i < n; i++ {
			ps = append(ps, &paper{i, n, map[string]bool{}, map[string]bool{}})
		}
		for i := 0; i < 60; i++ {
			to, from := g.Intn(n), g.Intn(n)
			if g.Intn(4) == 0 {
				xs[to].learn(xs[from].held)
				ps[to].join(ps[from].dots, ps[from].entries)
			}
			step(t, g, xs[to], ps[to])
		}
		for i := 0; i < 2*n; i++ {
			xs[(i+1)%n].learn(xs[i%n].held)
		}
		for _, x := range xs {
			is(t, "State in the end", x.State(), xs[0].State())
		}
	}
}
