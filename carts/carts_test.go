package carts_test

import (
	"fmt"
	"math"
	"strings"
	"testing"

	"carts/api"
	"carts/carts"
)

func begin(t *testing.T, me, n int) *carts.Replica {
	t.Helper()
	x, e := carts.New(me, n)
	if e != api.OK || x == nil {
		t.Fatalf("New(%d, %d): %v, %d", me, n, x, e)
	}
	return x
}

func wantState(t *testing.T, x *carts.Replica, want string) {
	t.Helper()
	if got := x.State(); got != want {
		t.Fatalf("State() = %q, want %q", got, want)
	}
}

// answer tells a call's answers in one text.
func answer(s string, e api.Errno) string { return fmt.Sprintf("%s %d", s, e) }

func answer3(l, s string, e api.Errno) string { return fmt.Sprintf("%s %s %d", l, s, e) }

func want(t *testing.T, what, got, wanted string) {
	t.Helper()
	if got != wanted {
		t.Fatalf("%s: %q, want %q", what, got, wanted)
	}
}

func TestBounds(t *testing.T) {
	got := []int{api.MaxReplicas, api.Carts, api.Items, api.MaxValue, api.MaxEvents}
	if fmt.Sprint(got) != "[3 3 4 99 9]" {
		t.Errorf("bounds: %v", got)
	}
}

// P3: every pair near the edges, and the numbers farthest out.
func TestNew(t *testing.T) {
	numbers := []int{math.MinInt, -2, -1, 0, 1, 2, 3, 4, 5, math.MaxInt}
	for _, n := range numbers {
		for _, me := range numbers {
			good := n >= 1 && n <= 3 && me >= 0 && me < n
			x, e := carts.New(me, n)
			if good && (e != api.OK || x == nil) || !good && (e != api.ErrArg || x != nil) {
				t.Errorf("New(%d, %d): %v, %d", me, n, x, e)
			}
			if good && x != nil {
				wantState(t, x, strings.Repeat("0", n)+";")
			}
		}
	}
}

// P4, P5: the replica's own digit counts, whichever of the cluster it is.
func TestStateAndTokenOfEachReplica(t *testing.T) {
	for n := 1; n <= 3; n++ {
		for me := 0; me < n; me++ {
			x := begin(t, me, n)
			none := strings.Repeat("0", n)
			for k := 1; k <= 9; k++ {
				seen := none[:me] + fmt.Sprint(k) + none[me+1:]
				want(t, "Set", answer(x.Set(none, 1, 2, k)), seen+" 0")
				wantState(t, x, fmt.Sprintf("%s;bC%d%d+%02d", seen, me, k, k))
				want(t, "Read", answer3(x.Read(seen, 1)), fmt.Sprintf("C%d %s 0", k, seen))
			}
		}
	}
}

// P4: the entries rise by their bytes, in whatever order they came.
func TestStateRises(t *testing.T) {
	x := begin(t, 2, 3)
	x.Add("000", 2, 3, -99)
	x.Add("000", 2, 0, 9)
	x.Add("000", 0, 3, -9)
	x.Add("000", 1, 1, 10)
	x.Add("000", 0, 3, -10)
	x.Add("000", 0, 2, 0)
	wantState(t, x, "006;aC26+00aD23-09aD25-10bB24+10cA22+09cD21-99")
}

// P5: what is no token, and what is one.
func TestTokens(t *testing.T) {
	x := begin(t, 1, 3)
	x.Add("000", 0, 0, 1)
	x.Add("000", 0, 0, 1)
	bad := []string{
		"", "0", "00", "0000", "00x", "x00", "0/0", "0:0", " 00", "00 ", "+00", "-00", "00\x00",
		"0\xb00", "é0", "٠", "000\n", "0.0", strings.Repeat("0", 1<<20),
	}
	for _, s := range bad {
		tokenIs(t, x, s, api.ErrToken)
	}
	for _, s := range []string{"030", "100", "001", "090", "999", "120", "021"} {
		tokenIs(t, x, s, api.ErrStale)
	}
	for _, s := range []string{"000", "010", "020"} {
		want(t, "Read of "+s, answer3(x.Read(s, 0)), "A2 020 0")
	}
	wantState(t, x, "020;aA11+01aA12+01")
}

// tokenIs makes each call that has a token, and wants the error and nothing else.
func tokenIs(t *testing.T, x *carts.Replica, s string, e api.Errno) {
	t.Helper()
	before := x.State()
	wanted := fmt.Sprintf(" %d", e)
	want(t, "Add", answer(x.Add(s, 0, 0, 1)), wanted)
	want(t, "Set", answer(x.Set(s, 0, 0, 1)), wanted)
	want(t, "Remove", answer(x.Remove(s, 0, 0)), wanted)
	want(t, "Clear", answer(x.Clear(s, 0)), wanted)
	want(t, "Read", answer3(x.Read(s, 0)), " "+wanted)
	wantState(t, x, before)
}

// P5: nothing else hangs on a token: an old one does not keep a call from
// taking away what its owner has not seen.
func TestOldTokenTakesAwayAll(t *testing.T) {
	x := begin(t, 0, 1)
	x.Add("0", 0, 0, 5)
	x.Add("1", 0, 0, 6)
	want(t, "Remove", answer(x.Remove("0", 0, 0)), "3 0")
	wantState(t, x, "3;")
}

// P6: Set and Remove take one item of one cart, Clear one cart, Add nothing.
func TestWhatEventsTakeAway(t *testing.T) {
	fill := func() *carts.Replica {
		x := begin(t, 0, 2)
		x.Add("00", 0, 0, 1)
		x.Add("00", 0, 0, -2)
		x.Add("00", 0, 1, 3)
		x.Add("00", 1, 0, 4)
		x.Add("00", 1, 1, -5)
		return x
	}
	x := fill()
	want(t, "Add", answer(x.Add("50", 0, 0, -99)), "60 0")
	wantState(t, x, "60;aA01+01aA02-02aA06-99aB03+03bA04+04bB05-05")
	x = fill()
	want(t, "Set", answer(x.Set("50", 0, 0, 99)), "60 0")
	wantState(t, x, "60;aA06+99aB03+03bA04+04bB05-05")
	x = fill()
	want(t, "Set to 0", answer(x.Set("50", 1, 1, 0)), "60 0")
	wantState(t, x, "60;aA01+01aA02-02aB03+03bA04+04bB06+00")
	x = fill()
	want(t, "Remove", answer(x.Remove("50", 0, 0)), "60 0")
	wantState(t, x, "60;aB03+03bA04+04bB05-05")
	x = fill()
	want(t, "Clear", answer(x.Clear("50", 0)), "60 0")
	wantState(t, x, "60;bA04+04bB05-05")
	x = fill()
	want(t, "Clear of another", answer(x.Clear("50", 1)), "60 0")
	wantState(t, x, "60;aA01+01aA02-02aB03+03")
	x = fill()
	want(t, "Remove of nothing", answer(x.Remove("50", 2, 3)), "60 0")
	want(t, "Clear of nothing", answer(x.Clear("50", 2)), "70 0")
	wantState(t, x, "70;aA01+01aA02-02aB03+03bA04+04bB05-05")
}

// P6: the ninth event is made, the tenth is not; ErrFull is the last error.
func TestFull(t *testing.T) {
	x := begin(t, 1, 2)
	for k := 1; k <= 9; k++ {
		want(t, "Add", answer(x.Add("00", 2, 3, k)), fmt.Sprintf("0%d 0", k))
	}
	full := "09;cD11+01cD12+02cD13+03cD14+04cD15+05cD16+06cD17+07cD18+08cD19+09"
	want(t, "Add", answer(x.Add("09", 2, 3, 1)), " 4")
	want(t, "Set", answer(x.Set("00", 2, 3, 1)), " 4")
	want(t, "Remove", answer(x.Remove("09", 2, 3)), " 4")
	want(t, "Clear", answer(x.Clear("00", 2)), " 4")
	want(t, "Read", answer3(x.Read("09", 2)), "D45 09 0")
	tokenIs(t, x, "0", api.ErrToken)
	tokenIs(t, x, "10", api.ErrStale)
	want(t, "Add", answer(x.Add("09", 3, 3, 1)), " 1")
	want(t, "Clear", answer(x.Clear("09", 3)), " 1")
	wantState(t, x, full)
}

// P1, P6, P7: ErrArg is named first, whatever the token; nothing is changed.
func TestWrongNumbers(t *testing.T) {
	x := begin(t, 0, 2)
	x.Add("00", 2, 3, 7)
	far := []int{math.MinInt, math.MaxInt, -1}
	for _, token := range []string{"10", "01", "x", strings.Repeat("9", 1<<16)} {
		for _, i := range append(far, 3, 4, 100) {
			want(t, "Add", answer(x.Add(token, i, 0, 0)), " 1")
			want(t, "Set", answer(x.Set(token, i, 0, 0)), " 1")
			want(t, "Remove", answer(x.Remove(token, i, 0)), " 1")
			want(t, "Clear", answer(x.Clear(token, i)), " 1")
			want(t, "Read", answer3(x.Read(token, i)), "  1")
		}
		for _, i := range append(far, 4, 5, 100) {
			want(t, "Add", answer(x.Add(token, 0, i, 0)), " 1")
			want(t, "Set", answer(x.Set(token, 0, i, 0)), " 1")
			want(t, "Remove", answer(x.Remove(token, 0, i)), " 1")
		}
		for _, v := range []int{math.MinInt, math.MaxInt, -100, 100} {
			want(t, "Add", answer(x.Add(token, 0, 0, v)), " 1")
			want(t, "Set", answer(x.Set(token, 0, 0, v)), " 1")
		}
		want(t, "Set", answer(x.Set(token, 0, 0, -1)), " 1")
		want(t, "Set", answer(x.Set(token, 0, 0, -99)), " 1")
	}
	wantState(t, x, "10;cD01+07")
}

// P6: the values at the edges.
func TestEdgeValues(t *testing.T) {
	x := begin(t, 0, 1)
	want(t, "Add", answer(x.Add("0", 0, 0, 99)), "1 0")
	want(t, "Add", answer(x.Add("0", 0, 1, -99)), "2 0")
	want(t, "Add", answer(x.Add("0", 0, 2, 0)), "3 0")
	want(t, "Add", answer(x.Add("0", 0, 3, -1)), "4 0")
	want(t, "Set", answer(x.Set("0", 2, 0, 99)), "5 0")
	want(t, "Set", answer(x.Set("0", 2, 3, 0)), "6 0")
	wantState(t, x, "6;aA01+99aB02-99aC03+00aD04-01cA05+99cD06+00")
	want(t, "Read", answer3(x.Read("6", 0)), "A99,B-99,C0,D-1 6 0")
	want(t, "Read", answer3(x.Read("6", 1)), " 6 0")
	want(t, "Read", answer3(x.Read("0", 2)), "A99,D0 6 0")
}

// P7: sums of more than two digits, below 0, and of 0 out of entries that
// are there; an item that was taken away is left out.
func TestReadSums(t *testing.T) {
	x := begin(t, 0, 1)
	x.Add("0", 1, 1, 99)
	x.Add("0", 1, 1, 99)
	x.Add("0", 1, 3, -99)
	x.Add("0", 1, 3, -99)
	x.Add("0", 1, 2, 5)
	x.Add("0", 1, 2, -5)
	x.Add("0", 1, 0, 1)
	want(t, "Read", answer3(x.Read("7", 1)), "A1,B198,C0,D-198 7 0")
	x.Remove("0", 1, 0)
	want(t, "Read", answer3(x.Read("7", 1)), "B198,C0,D-198 8 0")
	wantState(t, x, "8;bB01+99bB02+99bC05+05bC06-05bD03-99bD04-99")
	x.Clear("8", 1)
	want(t, "Read", answer3(x.Read("9", 1)), " 9 0")
}

// P2: replicas side by side know nothing of one another, and the same calls
// get the same answers.
func TestSideBySide(t *testing.T) {
	x := begin(t, 0, 2)
	y := begin(t, 0, 2)
	z := begin(t, 1, 2)
	want(t, "x.Add", answer(x.Add("00", 0, 0, 5)), "10 0")
	wantState(t, y, "00;")
	wantState(t, z, "00;")
	want(t, "z.Add", answer(z.Add("10", 0, 0, 5)), " 3")
	want(t, "y.Add", answer(y.Add("00", 0, 0, 5)), "10 0")
	want(t, "y.Clear", answer(y.Clear("00", 0)), "20 0")
	want(t, "z.Add", answer(z.Add("00", 0, 0, 6)), "01 0")
	wantState(t, x, "10;aA01+05")
	wantState(t, z, "01;aA11+06")
	want(t, "x.Clear", answer(x.Clear("00", 0)), "20 0")
	if x.State() != y.State() {
		t.Errorf("the same calls: %q and %q", x.State(), y.State())
	}
}

// P1, P2: State and Read change nothing.
func TestReadingChangesNothing(t *testing.T) {
	x := begin(t, 0, 1)
	x.Add("0", 0, 0, 5)
	for i := 0; i < 20; i++ {
		want(t, "Read", answer3(x.Read("1", 0)), "A5 1 0")
		want(t, "Read", answer3(x.Read("1", 1)), " 1 0")
		wantState(t, x, "1;aA01+05")
	}
}

// P1: no call panics, at numbers and strings of all kinds.
func TestNoPanic(t *testing.T) {
	numbers := []int{math.MinInt, -100, -1, 0, 1, 2, 3, 4, 9, 99, 100, math.MaxInt}
	texts := []string{"", "0", "00", "000", "999", ";", "\x00\xff", "I0101;", "F219911;cD11-99", "A0101", "011D01;aA01+05", strings.Repeat("0", 100000)}
	for _, s := range texts {
		for _, a := range numbers {
			for _, b := range numbers {
				x := begin(t, 1, 3)
				carts.New(a, b)
				carts.Open(a, b, s)
				for _, c := range numbers {
					x.Add(s, a, b, c)
					x.Set(s, a, b, c)
				}
				x.Remove(s, a, b)
				x.Clear(s, a)
				x.Read(s, a)
				x.Take(s)
				x.Acked(s)
				x.Ship(a)
				x.Compact()
				x.Log()
				x.State()
			}
		}
	}
}
