package carts_test

import (
	"fmt"
	"math"
	"strings"
	"testing"

	"carts/api"
	"carts/carts"
)

func open(t *testing.T, me, n int, log string) *carts.Replica {
	t.Helper()
	x, e := carts.Open(me, n, log)
	if e != api.OK || x == nil {
		t.Fatalf("Open(%d, %d, %.90q): %v, %d", me, n, log, x, e)
	}
	return x
}

func noLog(t *testing.T, me, n int, log string) {
	t.Helper()
	x, e := carts.Open(me, n, log)
	if e != api.ErrLog || x != nil {
		t.Errorf("Open(%d, %d, %.90q): %v, %d", me, n, log, x, e)
	}
}

// frames writes each body with its length ahead.
func frames(bodies ...string) string {
	log := ""
	for _, body := range bodies {
		log += fmt.Sprintf("%03d%s", len(body), body)
	}
	return log
}

// P8: each event adds one frame; what is refused, and Read and State, add none.
func TestLogOfEvents(t *testing.T) {
	x := begin(t, 1, 3)
	want(t, "Log", x.Log(), "")
	x.Add("000", 0, 0, 5)
	want(t, "Log", x.Log(), "011D11;aA11+05")
	x.Add("000", 0, 0, -99)
	x.Add("000", 2, 3, 0)
	log := frames("D11;aA11+05", "D12;aA12-99", "D13;cD13+00")
	want(t, "Log", x.Log(), log)
	x.Set("010", 0, 0, 7)
	log += frames("D111214;aA14+07")
	want(t, "Log behind Set", x.Log(), log)
	x.Remove("000", 2, 3)
	log += frames("D1315;")
	want(t, "Log behind Remove", x.Log(), log)
	x.Remove("000", 2, 3)
	log += frames("D16;")
	want(t, "Log behind Remove of nothing", x.Log(), log)
	x.Add("000", 0, 1, 1)
	x.Clear("000", 0)
	log += frames("D17;aB17+01", "D141718;")
	want(t, "Log behind Clear", x.Log(), log)
	x.Clear("000", 0)
	log += frames("D19;")
	want(t, "Log behind Clear of nothing", x.Log(), log)
	x.Add("000", 0, 0, 1)
	x.Add("100", 0, 0, 1)
	x.Set("0x0", 0, 0, 1)
	x.Remove("000", 3, 0)
	x.Clear("000", -1)
	x.Read("000", 0)
	x.State()
	x.Log()
	want(t, "Log behind calls that add nothing", x.Log(), log)
	wantState(t, open(t, 1, 3, log), "090;")
}

// P8: Compact at any time, once or twice; the log goes on behind it.
func TestCompact(t *testing.T) {
	x := begin(t, 0, 2)
	x.Compact()
	want(t, "Log of nothing", x.Log(), "004S00;")
	x.Add("00", 0, 0, 5)
	x.Add("00", 1, 2, -5)
	want(t, "Log", x.Log(), "004S00;"+frames("D01;aA01+05", "D02;bC02-05"))
	x.Compact()
	want(t, "Log", x.Log(), frames("S020102;aA01+05bC02-05"))
	x.Compact()
	want(t, "Log behind the second", x.Log(), frames("S020102;aA01+05bC02-05"))
	x.Set("20", 0, 0, 6)
	want(t, "Log", x.Log(), frames("S020102;aA01+05bC02-05", "D0103;aA03+06"))
	x.Compact()
	want(t, "Log", x.Log(), frames("S03010203;aA03+06bC02-05"))
	wantState(t, x, "30;aA03+06bC02-05")
}

// P8: a replica that compacts its log answers all else as one that does not.
func TestCompactChangesNothingElse(t *testing.T) {
	x := begin(t, 2, 3)
	y := begin(t, 2, 3)
	for k := 0; k < 11; k++ {
		y.Compact()
		cart, item := k%3, k*k%4
		want(t, "Add", answer(x.Add("000", cart, item, k)), answer(y.Add("000", cart, item, k)))
		want(t, "State", x.State(), y.State())
		want(t, "Read", answer3(x.Read("001", cart)), answer3(y.Read("001", cart)))
		want(t, "Clear", answer(x.Clear("005", cart)), answer(y.Clear("005", cart)))
		y.Compact()
		want(t, "State", x.State(), y.State())
	}
	x.Compact()
	want(t, "Log", x.Log(), y.Log())
	want(t, "Ship", answer(x.Ship(0)), answer(y.Ship(0)))
}

// P9: ErrArg as New answers it, whatever the log is.
func TestOpenArguments(t *testing.T) {
	numbers := []int{math.MinInt, -1, 0, 1, 2, 3, 4, math.MaxInt}
	for _, n := range numbers {
		for _, me := range numbers {
			_, errno := carts.New(me, n)
			for _, log := range []string{"", "000", "x", "004D01;", strings.Repeat("0", 9001)} {
				x, e := carts.Open(me, n, log)
				if errno != api.OK && (e != errno || x != nil) {
					t.Errorf("Open(%d, %d, %.9q): %v, %d", me, n, log, x, e)
				}
				if errno == api.OK && e == api.ErrArg {
					t.Errorf("Open(%d, %d, %.9q): ErrArg", me, n, log)
				}
			}
		}
	}
}

// P9: a replica that was opened goes on where its log ends, whoever made the
// events.
func TestOpenGoesOn(t *testing.T) {
	log := frames("D0111;aA01+05bB11-09", "D0102;", "D21;cC21+00", "D1112;bB12+01")
	x := open(t, 1, 3, log)
	wantState(t, x, "221;bB12+01cC21+00")
	want(t, "Read", answer3(x.Read("221", 1)), "B1 221 0")
	want(t, "Add", answer(x.Add("231", 0, 0, 5)), " 3")
	want(t, "Add", answer(x.Add("221", 0, 3, -5)), "231 0")
	want(t, "Log", x.Log(), log+frames("D13;aD13-05"))
	x.Compact()
	want(t, "Log", x.Log(), frames("S05010211121321;aD13-05bB12+01cC21+00"))
	full := open(t, 0, 1, frames("D010203040506070809;"))
	want(t, "Add", answer(full.Add("9", 0, 0, 5)), " 4")
	want(t, "Log", full.Log(), frames("D010203040506070809;"))
	full.Compact()
	want(t, "Log", full.Log(), frames("S01010203040506070809;"))
}

// P9: a first frame S tells how many deltas there were, from 0 to its dots.
func TestOpenOfWhole(t *testing.T) {
	for had := 0; had <= 99; had++ {
		log := frames(fmt.Sprintf("S%02d010211;aB02-05", had))
		if had > 3 {
			noLog(t, 0, 2, log)
			continue
		}
		x := open(t, 0, 2, log)
		wantState(t, x, "21;aB02-05")
		want(t, "Log", x.Log(), log)
		want(t, "Clear", answer(x.Clear("00", 0)), "31 0")
		want(t, "Log", x.Log(), log+frames("D0203;"))
		x.Compact()
		want(t, "Log", x.Log(), frames(fmt.Sprintf("S%02d01020311;", had+1)))
	}
	for _, log := range []string{"S", "S0", "S00", "S0001", "S;", "S01;", "S0;", "Sx0;", "S0x01;", "S+101;", "S-101;", "S 101;"} {
		noLog(t, 0, 1, frames(log))
	}
	noLog(t, 0, 1, frames("S00;", "S00;"))
	noLog(t, 0, 1, frames("D01;", "S0101;"))
	noLog(t, 0, 1, frames("D01;", "S020102;"))
	noLog(t, 0, 1, frames("S00;", "D01;", "S020102;"))
	noLog(t, 0, 1, frames("S0002;"))
	noLog(t, 0, 3, frames("S00011113;"))
	noLog(t, 0, 1, frames("S0011;"))
	noLog(t, 0, 2, frames("S000121;"))
}

// P9: an end that was cut short is left out, and is not in the log.
func TestOpenOfCutLogs(t *testing.T) {
	whole := frames("D01;aA01+05")
	ends := []string{
		"", "0", "01", "x", "xx", ";;", "\xff\xff", "001", "004", "004D", "004D0", "004D02", "999", "011D02;aB02+0",
		"004S0", "002x", "003xx", "999" + strings.Repeat("x", 998),
	}
	for _, end := range ends {
		x := open(t, 0, 1, whole+end)
		wantState(t, x, "1;aA01+05")
		want(t, "Log", x.Log(), whole)
		want(t, "Add", answer(x.Add("1", 0, 1, 6)), "2 0")
		want(t, "Log", x.Log(), whole+frames("D02;aB02+06"))
		y := open(t, 0, 1, end)
		wantState(t, y, "0;")
		want(t, "Log", y.Log(), "")
	}
	for _, end := range []string{
		"000", "xxx", "00x", "0x0", "x00", " 04", "+04", "-04", "4D02;", "0 4", "00:", "/04", "\xff\xff\xff", "00xD02;",
		"001x", "001D", "003xxx", "999" + strings.Repeat("x", 999), "004D02;000",
	} {
		noLog(t, 0, 1, whole+end)
	}
}

// P9: frames that are none: the letter, the piece, or its fit.
func TestOpenOfWrongFrames(t *testing.T) {
	for _, body := range []string{
		"", "d01;", "X01;", "01;", ";", "D", "D;", "D01", "D0;", "D1;", "D01;;", "D01;aA01+0", "D01;aA01+055", "D01;aA01-00",
		"D0101;", "D0201;", "D00;", "D10;", "DD01;", "D0101;aA01+05", "D01;aA02+05", "D01;aA01+05aB01+05",
		"D0102;aB01+05aA02+05", "I01;", "A01;", "D 01;", "D01; ", "D01;AA01+05", "D01;aA01+5", "D01;aA01+ 5", "D01;aa01+05",
	} {
		noLog(t, 0, 3, frames(body))
		noLog(t, 0, 3, frames("D010203;bA01+05", body))
	}
	cases := []struct {
		what   string
		n      int
		bodies []string
		good   bool
	}{
		{"a dot beside the cluster", 1, []string{"D0111;"}, false},
		{"a dot beside the cluster", 2, []string{"D01;", "D21;aA21+05"}, false},
		{"no dot that is new", 1, []string{"D01;", "D01;"}, false},
		{"no dot that is new, though an entry goes", 1, []string{"D01;aA01+05", "D01;"}, false},
		{"no dot that is new behind S", 1, []string{"S020102;", "D02;"}, false},
		{"no dots", 1, []string{"D01;", "D;"}, false},
		{"a hole", 1, []string{"D0103;"}, false},
		{"a hole at number 1", 1, []string{"D02;"}, false},
		{"a hole of another", 2, []string{"D01;", "D12;"}, false},
		{"a hole that the next would fill", 1, []string{"D02;", "D01;"}, false},
		{"a hole in the piece alone", 1, []string{"D01;", "D02;", "D0103;"}, true},
		{"no hole behind the joining", 1, []string{"D01;", "D02;aA02+05"}, true},
		{"another value", 1, []string{"D01;aA01+05", "D0102;aA01+06"}, false},
		{"another cart", 1, []string{"D01;aA01+05", "D0102;bA01+05"}, false},
		{"another item", 1, []string{"D01;aA01+05", "D0102;aB01+05"}, false},
		{"another value than in S", 1, []string{"S0001;aA01+05", "D0102;aA01+06"}, false},
		{"the same entry", 1, []string{"D01;aA01+05", "D0102;aA01+05"}, true},
		{"another entry, the first one taken away", 1, []string{"D01;aA01+05", "D0102;", "D0103;aA01+06"}, true},
		{"an entry of a dot that has none", 1, []string{"D01;", "D0102;aA01+06"}, true},
	}
	for _, c := range cases {
		if !c.good {
			noLog(t, 0, c.n, frames(c.bodies...))
			continue
		}
		x := open(t, 0, c.n, frames(c.bodies...))
		want(t, c.what, x.Log(), frames(c.bodies...))
	}
	wantState(t, open(t, 0, 1, frames("D01;aA01+05", "D0102;aA01+05")), "2;aA01+05")
	wantState(t, open(t, 0, 1, frames("D01;aA01+05", "D0102;", "D0103;aA01+06")), "3;")
	wantState(t, open(t, 0, 1, frames("D01;", "D0102;aA01+06")), "2;")
}

// longest is the longest log without a cut end: S without dots, and each D
// one dot more, with an entry of each.
func longest() string {
	bodies := []string{"S00;"}
	dots, entries := "", ""
	for r := 0; r < 3; r++ {
		for k := 1; k <= 9; k++ {
			dots += fmt.Sprintf("%d%d", r, k)
			entries += fmt.Sprintf("cD%d%d-99", r, k)
			bodies = append(bodies, "D"+dots+";"+entries)
		}
	}
	return frames(bodies...)
}

// P9: the longest log opens, with the longest end that can be cut; one longer
// than MaxLog does not. (Each D has a new dot, so what is longer than the
// longest here has a fault in its frames too, and so has all beyond MaxLog.)
func TestOpenOfLongLogs(t *testing.T) {
	log := longest()
	x := open(t, 2, 3, log+"999"+strings.Repeat("0", 998))
	want(t, "Log", x.Log(), log)
	want(t, "Read", answer3(x.Read("999", 2)), "D-2673 999 0")
	x.Compact()
	if got := x.Log(); len(got) != 250 || !strings.HasPrefix(got, "247S270102") {
		t.Errorf("the longest S: %q", got)
	}
	want(t, "Log", open(t, 2, 3, x.Log()).Log(), x.Log())
	want(t, "MaxLog", fmt.Sprint(api.MaxLog), "9000")
	for _, length := range []int{9000, 9001, 10000, 1 << 20} {
		for _, letter := range []string{"0", "9", "x", "\xff"} {
			noLog(t, 2, 3, strings.Repeat(letter, length))
			noLog(t, 2, 3, log+strings.Repeat(letter, length-len(log)))
		}
	}
}

// P2: replicas that were opened with one log know nothing of one another, nor
// of the one that wrote it.
func TestOpenSideBySide(t *testing.T) {
	x := begin(t, 0, 2)
	x.Add("00", 0, 0, 5)
	log := x.Log()
	y := open(t, 0, 2, log)
	z := open(t, 1, 2, log)
	x.Add("00", 0, 0, 6)
	y.Clear("10", 0)
	want(t, "z.Add", answer(z.Add("10", 1, 1, 1)), "11 0")
	want(t, "x.Log", x.Log(), log+frames("D02;aA02+06"))
	want(t, "y.Log", y.Log(), log+frames("D0102;"))
	want(t, "z.Log", z.Log(), log+frames("D11;bB11+01"))
	wantState(t, x, "20;aA01+05aA02+06")
	wantState(t, y, "20;")
	wantState(t, z, "11;aA01+05bB11+01")
}
