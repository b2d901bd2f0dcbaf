package carts_test

import (
	"fmt"
	"math"
	"strings"
	"testing"

	"carts/api"
	"carts/carts"
)

// ships wants a message from Ship, each time it is asked, and nothing changed.
func ships(t *testing.T, x *carts.Replica, to int, message string) {
	t.Helper()
	state, log := x.State(), x.Log()
	for i := 0; i < 2; i++ {
		want(t, fmt.Sprintf("Ship(%d)", to), answer(x.Ship(to)), message+" 0")
	}
	wantState(t, x, state)
	want(t, "Log behind Ship", x.Log(), log)
}

// shipped tells what Ship answers for each replica that there may be.
func shipped(x *carts.Replica) string {
	text := ""
	for to := 0; to < api.MaxReplicas; to++ {
		text += answer(x.Ship(to)) + "\n"
	}
	return text
}

// acked wants an error or OK from Acked; and State, Log and, with an error,
// what Ship writes not changed.
func acked(t *testing.T, x *carts.Replica, text string, e api.Errno) {
	t.Helper()
	state, log, messages := x.State(), x.Log(), shipped(x)
	if got := x.Acked(text); got != e {
		t.Errorf("Acked(%.90q): %d, want %d", text, got, e)
	}
	wantState(t, x, state)
	want(t, "Log behind Acked", x.Log(), log)
	if e != api.OK {
		want(t, fmt.Sprintf("Ship behind Acked(%.90q)", text), shipped(x), messages)
	}
}

// P11: ErrArg for each replica that there is not, and for the one itself, with
// something to tell and without; the others are told.
func TestShipArguments(t *testing.T) {
	for n := 1; n <= 3; n++ {
		for me := 0; me < n; me++ {
			x := begin(t, me, n)
			y := begin(t, me, n)
			y.Remove(strings.Repeat("0", n), 0, 0)
			for _, to := range []int{math.MinInt, -1000, -2, -1, 0, 1, 2, 3, 4, 5, 9, 1000, math.MaxInt} {
				if to < 0 || to >= n || to == me {
					want(t, "Ship", answer(x.Ship(to)), " 1")
					want(t, "Ship", answer(y.Ship(to)), " 1")
					continue
				}
				ships(t, x, to, "")
				ships(t, y, to, fmt.Sprintf("I%d%d01%d1;", me, to, me))
			}
		}
	}
}

// adds writes a piece of Adds of replica 0: event k lays k into cart a.
func adds(from, to int) string {
	dots, entries := "", ""
	for k := from; k <= to; k++ {
		dots += fmt.Sprintf("0%d", k)
		entries += fmt.Sprintf("aA0%d+0%d", k, k)
	}
	return dots + ";" + entries
}

// P9, P11, P12: of each count of deltas, so many of them told before Open, and
// each number acknowledged: nothing where all are, `I` where all that are not
// are remembered, else `F`. Replica 2 acknowledges nothing.
func TestShipOfEachCount(t *testing.T) {
	for events := 0; events <= 9; events++ {
		for before := 0; before <= events; before++ {
			for number := 0; number <= events; number++ {
				x := begin(t, 0, 3)
				for k := 1; k <= events; k++ {
					if k == before+1 {
						x = open(t, 0, 3, x.Log())
					}
					x.Add("000", 0, 0, k)
				}
				if before == events {
					x = open(t, 0, 3, x.Log())
				}
				acked(t, x, fmt.Sprintf("A10%02d", number), api.OK)
				ships(t, x, 1, expected(1, events, before, number))
				ships(t, x, 2, expected(2, events, before, 0))
			}
		}
	}
}

func expected(to, events, before, number int) string {
	untold := events - number
	switch {
	case untold == 0:
		return ""
	case untold <= 4 && number >= before:
		return fmt.Sprintf("I0%d%02d%s", to, events, adds(number+1, events))
	}
	return fmt.Sprintf("F0%d%02d%s", to, events, adds(1, events))
}

// P11: the deltas of a message are joined: what a later one takes away is not
// in it, and the dots of what an acknowledged one laid are, without entries.
func TestShipJoins(t *testing.T) {
	x := begin(t, 1, 3)
	x.Add("000", 0, 0, 5)
	x.Add("000", 0, 1, -6)
	ships(t, x, 0, "I10021112;aA11+05aB12-06")
	x.Set("000", 0, 0, 7)
	ships(t, x, 0, "I1003111213;aA13+07aB12-06")
	acked(t, x, "A0101", api.OK)
	ships(t, x, 0, "I1003111213;aA13+07aB12-06")
	acked(t, x, "A0102", api.OK)
	ships(t, x, 0, "I10031113;aA13+07")
	ships(t, x, 2, "I1203111213;aA13+07aB12-06")
	x.Remove("000", 0, 1)
	ships(t, x, 0, "I100411121314;aA13+07")
	acked(t, x, "A0103", api.OK)
	ships(t, x, 0, "I10041214;")
	ships(t, x, 2, "I120411121314;aA13+07")
	x.Clear("000", 0)
	ships(t, x, 0, "I100512131415;")
	ships(t, x, 2, "F12051112131415;")
	acked(t, x, "A2101", api.OK)
	ships(t, x, 2, "I12051112131415;")
	x.Remove("000", 2, 3)
	ships(t, x, 0, "I10061213141516;")
	acked(t, x, "A0105", api.OK)
	ships(t, x, 0, "I100616;")
}

// P11: a message of the whole has what is held alone, not what the last deltas
// were; entries that no remembered delta has are in it.
func TestShipOfWhole(t *testing.T) {
	x := begin(t, 0, 2)
	x.Add("00", 2, 3, -99)
	x.Add("00", 0, 0, 1)
	x.Clear("00", 0)
	x.Add("00", 1, 1, 0)
	ships(t, x, 1, "I010401020304;bB04+00cD01-99")
	x.Add("00", 0, 3, 99)
	ships(t, x, 1, "F01050102030405;aD05+99bB04+00cD01-99")
	acked(t, x, "A1001", api.OK)
	ships(t, x, 1, "I010502030405;aD05+99bB04+00")
}

// P10, P11: what others told is a delta too, and is told on, to the one from
// which it came too; what brought nothing new or was refused is none.
func TestShipOfTaken(t *testing.T) {
	x := begin(t, 1, 3)
	takes(t, x, "I010701;aA01+05", "A1007", "100;aA01+05")
	ships(t, x, 0, "I100101;aA01+05")
	ships(t, x, 2, "I120101;aA01+05")
	keeps(t, x, "I010701;aA01+05", "A1007")
	keeps(t, x, "F0108;", "A1008")
	keeps(t, x, "F010901;", "A1009")
	refuses(t, x, "F010903;", api.ErrGap)
	refuses(t, x, "F01090102;aA01+06", api.ErrClash)
	refuses(t, x, "F000902;", api.ErrWho)
	refuses(t, x, "F010902", api.ErrText)
	x.Add("900", 0, 0, 1)
	x.Add("000", 0, 4, 1)
	ships(t, x, 2, "I120101;aA01+05")
	acked(t, x, "A2101", api.OK)
	ships(t, x, 2, "")
	takes(t, x, "F21050102"+"2122;bC22-01", "A1205", "202;bC22-01")
	ships(t, x, 0, "I100201022122;bC22-01")
	ships(t, x, 2, "I120201022122;bC22-01")
	want(t, "Set", answer(x.Set("202", 1, 2, 4)), "212 0")
	ships(t, x, 2, "I12030102112122;bC11+04")
	acked(t, x, "A2102", api.OK)
	ships(t, x, 2, "I12031122;bC11+04")
	for number := 3; number <= 5; number++ {
		x.Take(fmt.Sprintf("I01090%d;", number))
	}
	ships(t, x, 0, "F10060102030405112122;bC11+04")
	ships(t, x, 2, "I1206030405"+"1122;bC11+04")
}

// P10, P11: deltas may bring an entry of a dot whose entry was taken away
// here; joined by themselves they have it where no other of them has the dot.
func TestShipOfEntriesThatWereGone(t *testing.T) {
	x := begin(t, 0, 2)
	x.Add("00", 0, 0, 1)
	x.Remove("00", 0, 0)
	takes(t, x, "I10010111;aA01+01", "A0101", "21;")
	takes(t, x, "I10020112;aA01+02", "A0102", "22;")
	ships(t, x, 1, "I010401021112;")
	acked(t, x, "A1002", api.OK)
	ships(t, x, 1, "I0104011112;")
	acked(t, x, "A1003", api.OK)
	ships(t, x, 1, "I01040112;aA01+02")
}

// P12: texts that are no answer, each byte at each place, and each length.
func TestAckedOfTexts(t *testing.T) {
	x := begin(t, 1, 2)
	x.Add("00", 0, 0, 5)
	for place := 0; place < 5; place++ {
		for b := 0; b < 256; b++ {
			letter := string([]byte{byte(b)})
			text := "A0101"[:place] + letter + "A0101"[place+1:]
			wanted := api.ErrText
			switch {
			case strings.Contains([]string{"A", "0", "1", "0", "01"}[place], letter):
				wanted = api.OK
			case strings.Contains([]string{"", "12", "02", "", ""}[place], letter):
				wanted = api.ErrWho
			case strings.Contains([]string{"", "", "", "123456789", "23456789"}[place], letter):
				wanted = api.ErrSeq
			}
			acked(t, begin1(t), text, wanted)
		}
	}
	for _, text := range []string{
		"", "A", "A0", "A01", "A010", "A01001", "A01010", "A0101;", "A0101 ", " A0101", "A0101\n", "A0101\x00", "\x00A0101",
		"0101", "A0 01", "A01+1", "A01-1", "A01 1", "A011", "a0101", "I0101", "F0101", "I0101;", "AA0101", "A0101A0101",
		"A010101;", "A٠101", "A01٠", "A0301", "A3101", "A0:01", "A/101", strings.Repeat("A", 5), strings.Repeat("A0101", 1<<16),
		"A0101" + strings.Repeat("0", 300), strings.Repeat("\xff", 5),
	} {
		acked(t, x, text, api.ErrText)
	}
	ships(t, x, 0, "I100111;aA11+05")
}

// begin1 makes replica 1 of two, with one event.
func begin1(t *testing.T) *carts.Replica {
	t.Helper()
	x := begin(t, 1, 2)
	want(t, "Add", answer(x.Add("00", 0, 0, 5)), "01 0")
	return x
}

// P12: of each cluster, each replica, each sender and each goal; only who sent
// the answer has acknowledged by it.
func TestAckedFromAndTo(t *testing.T) {
	for n := 1; n <= 3; n++ {
		for me := 0; me < n; me++ {
			for from := 0; from < 3; from++ {
				for to := 0; to < 3; to++ {
					x := begin(t, me, n)
					x.Clear("000"[:n], 0)
					text := fmt.Sprintf("A%d%d01", from, to)
					if to != me || from == me || from >= n {
						acked(t, x, text, api.ErrWho)
						continue
					}
					acked(t, x, text, api.OK)
					for other := 0; other < n; other++ {
						if other == from {
							ships(t, x, other, "")
						} else if other != me {
							ships(t, x, other, fmt.Sprintf("I%d%d01%d1;", me, other, me))
						}
					}
				}
			}
		}
	}
}

// P12: each number, at each count of deltas; those above are refused, and
// acknowledge nothing of what comes later.
func TestAckedNumbers(t *testing.T) {
	for events := 0; events <= 9; events++ {
		for number := 0; number <= 99; number++ {
			x := begin(t, 0, 2)
			for k := 1; k <= events; k++ {
				x.Add("00", 0, 0, k)
			}
			text := fmt.Sprintf("A10%02d", number)
			if number > events {
				acked(t, x, text, api.ErrSeq)
				ships(t, x, 1, expected(1, events, 0, 0))
				continue
			}
			acked(t, x, text, api.OK)
			ships(t, x, 1, expected(1, events, 0, number))
		}
	}
}

// P12: a smaller number behind a greater one takes nothing back, the same one
// changes nothing, and a greater one goes on.
func TestAckedTakesNothingBack(t *testing.T) {
	for first := 0; first <= 7; first++ {
		for second := 0; second <= 7; second++ {
			x := begin(t, 0, 3)
			for k := 1; k <= 7; k++ {
				x.Add("000", 0, 0, k)
			}
			acked(t, x, fmt.Sprintf("A100%d", first), api.OK)
			acked(t, x, fmt.Sprintf("A100%d", second), api.OK)
			ships(t, x, 1, expected(1, 7, 0, max(first, second)))
			acked(t, x, fmt.Sprintf("A200%d", second), api.OK)
			ships(t, x, 1, expected(1, 7, 0, max(first, second)))
			ships(t, x, 2, expected(2, 7, 0, second))
			x.Add("000", 0, 0, 8)
			ships(t, x, 1, expected(1, 8, 0, max(first, second)))
		}
	}
}

// P1, P12: where several errors apply, the first is the answer.
func TestAckedOfSeveralFaults(t *testing.T) {
	x := begin(t, 0, 2)
	x.Add("00", 0, 0, 1)
	for _, text := range []string{"B0199", "A019", "A01999", "A2x99", "A0x01", "A319", "A9999", "a1002"} {
		acked(t, x, text, api.ErrText)
	}
	for _, text := range []string{"A0199", "A0099", "A2099", "A1199", "A1299", "A2299", "A0102", "A2002"} {
		acked(t, x, text, api.ErrWho)
	}
	acked(t, x, "A1002", api.ErrSeq)
	ships(t, x, 1, "I010101;aA01+01")
}

// P9, P11, P12: behind Open nothing is remembered nor acknowledged, though it
// was before; the numbers go on from what the log tells.
func TestShipBehindOpen(t *testing.T) {
	x := begin(t, 0, 3)
	x.Add("000", 0, 0, 1)
	x.Add("000", 0, 0, 2)
	acked(t, x, "A1002", api.OK)
	ships(t, x, 1, "")
	log := x.Log()
	x.Compact()
	for _, text := range []string{log, x.Log(), log + "012D03;"} {
		y := open(t, 0, 3, text)
		ships(t, y, 1, "F01020102;aA01+01aA02+02")
		acked(t, y, "A1003", api.ErrSeq)
		acked(t, y, "A1001", api.OK)
		ships(t, y, 1, "F01020102;aA01+01aA02+02")
		y.Add("000", 0, 0, 3)
		ships(t, y, 1, "F0103"+adds(1, 3))
		acked(t, y, "A1002", api.OK)
		ships(t, y, 1, "I010303;aA03+03")
		ships(t, y, 2, "F0203"+adds(1, 3))
		acked(t, y, "A1003", api.OK)
		ships(t, y, 1, "")
		takes(t, y, "I100911;", "A0109", "310;aA01+01aA02+02aA03+03")
		ships(t, y, 1, "I010411;")
	}
	ships(t, x, 1, "")
	ships(t, x, 2, "I0202"+adds(1, 2))
}

// P9, P11, P12: the digits of S are how many deltas there were, whatever its
// dots: of none there is nothing to tell, and none to acknowledge.
func TestShipBehindWhole(t *testing.T) {
	for had := 0; had <= 3; had++ {
		x := open(t, 0, 2, frames(fmt.Sprintf("S%02d010203;bA02+05", had)))
		message := ""
		if had > 0 {
			message = fmt.Sprintf("F010%d010203;bA02+05", had)
		}
		ships(t, x, 1, message)
		acked(t, x, fmt.Sprintf("A100%d", had+1), api.ErrSeq)
		acked(t, x, fmt.Sprintf("A100%d", had), api.OK)
		ships(t, x, 1, "")
		x.Clear("30", 1)
		ships(t, x, 1, fmt.Sprintf("I010%d0204;", had+1))
	}
	ships(t, open(t, 1, 3, ""), 0, "")
	ships(t, open(t, 1, 3, "004S00;"), 2, "")
	ships(t, open(t, 1, 3, "004D11"), 2, "")
	x := open(t, 0, 2, frames("S010102;", "D03;", "D11;"))
	ships(t, x, 1, "F010301020311;")
	acked(t, x, "A1002", api.OK)
	ships(t, x, 1, "F010301020311;")
	acked(t, x, "A1003", api.OK)
	ships(t, x, 1, "")
}

// P8, P11, P12: Compact takes nothing away of what is remembered and
// acknowledged.
func TestShipBehindCompact(t *testing.T) {
	x, y := begin(t, 0, 3), begin(t, 0, 3)
	for k := 1; k <= 9; k++ {
		x.Add("000", 0, 0, k)
		y.Add("000", 0, 0, k)
		y.Compact()
		want(t, "Ship", shipped(y), shipped(x))
		if k%3 == 0 {
			acked(t, x, fmt.Sprintf("A200%d", k-1), api.OK)
			acked(t, y, fmt.Sprintf("A200%d", k-1), api.OK)
			y.Compact()
			ships(t, y, 2, fmt.Sprintf("I020%d%s", k, adds(k, k)))
		}
		want(t, "Ship", shipped(y), shipped(x))
	}
}

// P11: the longest message of each letter has all dots and an entry of each,
// and a number of two digits; it is one that Take takes.
func TestShipOfLongTexts(t *testing.T) {
	dots, entries := "", ""
	x, y := begin(t, 2, 3), begin(t, 2, 3)
	for r := 0; r < 3; r++ {
		for k := 1; k <= 9; k++ {
			dot := fmt.Sprintf("%d%d", r, k)
			entry := "cD" + dot + "-99"
			dots, entries = dots+dot, entries+entry
			want(t, "Take", answer(x.Take("I0201"+dot+";"+entry)), "A2001 0")
		}
	}
	want(t, "Take", answer(y.Take("F0201"+dots+";"+entries)), "A2001 0")
	ships(t, x, 1, "F2127"+dots+";"+entries)
	ships(t, y, 1, "I2101"+dots+";"+entries)
	takes(t, begin(t, 1, 3), "F2127"+dots+";"+entries, "A1227", "999;"+entries)
	takes(t, begin(t, 1, 3), "I2101"+dots+";"+entries, "A1201", "999;"+entries)
	acked(t, x, "A1228", api.ErrSeq)
	acked(t, x, "A1223", api.OK)
	ships(t, x, 1, "I212726272829;"+entries[len(entries)-28:])
	acked(t, x, "A1227", api.OK)
	ships(t, x, 1, "")
}

// P2: replicas side by side remember and acknowledge each by itself.
func TestShipSideBySide(t *testing.T) {
	x, y := begin(t, 0, 2), begin(t, 0, 2)
	x.Add("00", 0, 0, 1)
	y.Add("00", 0, 0, 2)
	acked(t, x, "A1001", api.OK)
	ships(t, x, 1, "")
	ships(t, y, 1, "I010101;aA01+02")
	z := open(t, 0, 2, y.Log())
	y.Add("00", 0, 0, 3)
	ships(t, z, 1, "F010101;aA01+02")
	ships(t, y, 1, "I01020102;aA01+02aA02+03")
	ships(t, x, 1, "")
}

// P10 to P12: a message that was lost is told again with what came later; an
// answer that was lost costs nothing but another message.
func TestShipAgain(t *testing.T) {
	xs := cluster(t, 2)
	x, y := xs[0], xs[1]
	x.Add("00", 0, 0, 1)
	ships(t, x, 1, "I010101;aA01+01")
	x.Add("00", 0, 0, 2)
	ships(t, x, 1, "I01020102;aA01+01aA02+02")
	takes(t, y, "I01020102;aA01+01aA02+02", "A1002", "20;aA01+01aA02+02")
	x.Remove("00", 0, 0)
	ships(t, x, 1, "I0103010203;")
	takes(t, y, "I0103010203;", "A1003", "30;")
	keeps(t, y, "I010101;aA01+01", "A1001")
	acked(t, x, "A1003", api.OK)
	acked(t, x, "A1001", api.OK)
	ships(t, x, 1, "")
	ships(t, y, 0, "I1002010203;")
	keeps(t, x, "I1002010203;", "A0102")
	acked(t, y, "A0102", api.OK)
	ships(t, y, 0, "")
	ships(t, x, 1, "")
}
