package carts

import (
	"fmt"
	"testing"

	"carts/api"
	"carts/piece"
)

func cluster(n int) []*Replica {
	var xs []*Replica
	for i := 0; i < n; i++ {
		x, _ := New(i, n)
		xs = append(xs, x)
	}
	return xs
}

func is(t *testing.T, what, got, want string) {
	t.Helper()
	if got != want {
		t.Fatalf("%s: %q, want %q", what, got, want)
	}
}

func told(s string, e api.Errno) string { return fmt.Sprintf("%s %d", s, e) }

// tell joins a piece to what the replica holds, if there is something new in
// it.
func tell(t *testing.T, x *Replica, text string) {
	t.Helper()
	p, good := piece.Read(text)
	if !good || !x.fits(p) {
		t.Fatalf("the piece %q", text)
	}
	if x.hasNews(p) {
		x.learn(p)
	}
}

// The document's examples of clients' calls and of the log. Where they carry
// a message, its piece is told.
func TestExamples(t *testing.T) {
	xs := cluster(3)
	x0, x1, x2 := xs[0], xs[1], xs[2]
	is(t, "State", x0.State(), "000;")
	is(t, "Add", told(x0.Add("000", 0, 0, 5)), "100 0")
	is(t, "Add", told(x0.Add("000", 0, 1, -2)), "200 0")
	is(t, "State", x0.State(), "200;aA01+05aB02-02")
	is(t, "Log", x0.Log(), "011D01;aA01+05011D02;aB02-02")
	tell(t, x1, "0102;aA01+05aB02-02")
	is(t, "Set", told(x1.Set("200", 0, 0, 3)), "210 0")
	is(t, "Add", told(x0.Add("210", 0, 0, 1)), " 3")
	is(t, "Add", told(x0.Add("000", 0, 0, 1)), "300 0")
	is(t, "State", x1.State(), "210;aA11+03aB02-02")
	tell(t, x0, "010211;aA11+03aB02-02")
	sums, token, e := x0.Read("210", 0)
	is(t, "Read", sums+" "+told(token, e), "A4,B-2 310 0")
	is(t, "State", x0.State(), "310;aA03+01aA11+03aB02-02")
	tell(t, x2, "01020311;aA03+01aA11+03aB02-02")
	is(t, "Clear", told(x0.Clear("000", 0)), "410 0")
	tell(t, x2, "0102030411;")
	is(t, "State", x2.State(), "410;")
	is(t, "Log", x2.Log(), "031D01020311;aA03+01aA11+03aB02-02012D0102030411;")
	tell(t, x2, "111213;aA13+01")
	tell(t, x2, "13;")
	is(t, "Add", told(x2.Add("310", 2, 3, 7)), "431 0")
	tell(t, x2, "0102030411122122;cD22+08")
	x2.Compact()
	is(t, "Log", x2.Log(), "036S05010203041112132122;aA13+01cD22+08")
	y, e := Open(2, 3, x2.Log()+"027D")
	is(t, "Open", told("", e), " 0")
	is(t, "State", y.State(), "432;aA13+01cD22+08")
	_, e = Open(2, 3, x2.Log()+"001D")
	is(t, "Open", told("", e), " 10")
	_, e = Open(0, 4, "")
	is(t, "Open", told("", e), " 1")
}

// P6: an event's number goes on behind the last of its own that it knows,
// though it was told of it: here a new replica 0 that learns what 1 knows.
func TestNumberBehindLearntOnes(t *testing.T) {
	x, _ := New(0, 2)
	var learnt piece.Piece
	learnt = learnt.WithDot(0, 1)
	learnt = learnt.WithEntry(0, 2, piece.Entry{Cart: 0, Item: 0, Value: 5})
	learnt = learnt.WithDot(1, 1)
	x.learn(learnt)
	is(t, "Add", told(x.Add("21", 0, 1, 6)), "31 0")
	is(t, "State", x.State(), "31;aA02+05aB03+06")
}

// P6: events of others do not fill a replica up, its own do, told or made.
func TestFullOfOwnAlone(t *testing.T) {
	var nine piece.Piece
	for k := 1; k <= api.MaxEvents; k++ {
		nine = nine.WithDot(1, k)
	}
	for me := 0; me < 2; me++ {
		x, _ := New(me, 2)
		x.learn(nine)
		want := []string{"19 0", " 4"}[me]
		is(t, "Add", told(x.Add("09", 0, 0, 1)), want)
	}
}

// P7: the greatest and the least sum there can be.
func TestGreatestSum(t *testing.T) {
	for _, value := range []int{api.MaxValue, -api.MaxValue} {
		var all piece.Piece
		for r := 0; r < api.MaxReplicas; r++ {
			for k := 1; k <= api.MaxEvents; k++ {
				all = all.WithEntry(r, k, piece.Entry{Cart: 2, Item: 3, Value: value})
			}
		}
		x, _ := New(2, 3)
		x.learn(all)
		sums, token, e := x.Read("999", 2)
		is(t, "Read", sums+" "+told(token, e), fmt.Sprintf("D%d 999 0", 27*value))
	}
}
