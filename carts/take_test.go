package carts_test

import (
	"fmt"
	"strings"
	"testing"

	"carts/api"
	"carts/carts"
)

// refuses wants the error alone from Take, and nothing changed by it.
func refuses(t *testing.T, x *carts.Replica, message string, e api.Errno) {
	t.Helper()
	state, log := x.State(), x.Log()
	if got := answer(x.Take(message)); got != fmt.Sprintf(" %d", e) {
		t.Errorf("Take(%.90q): %q, want error %d", message, got, e)
	}
	if x.State() != state || x.Log() != log {
		t.Errorf("Take(%.90q): State %q, want %q; Log %q, want %q", message, x.State(), state, x.Log(), log)
	}
}

// keeps wants an answer from Take, and nothing changed by it.
func keeps(t *testing.T, x *carts.Replica, message, wanted string) {
	t.Helper()
	state, log := x.State(), x.Log()
	want(t, "Take of "+message, answer(x.Take(message)), wanted+" 0")
	wantState(t, x, state)
	want(t, "Log behind "+message, x.Log(), log)
}

// takes wants an answer from Take, the piece joined, and one frame more.
func takes(t *testing.T, x *carts.Replica, message, wanted, state string) {
	t.Helper()
	log := x.Log()
	want(t, "Take of "+message, answer(x.Take(message)), wanted+" 0")
	wantState(t, x, state)
	want(t, "Log behind "+message, x.Log(), log+frames("D"+message[5:]))
}

// P10: messages with something new, of both letters: State, Log, Read, tokens
// and a compacted log behind them.
func TestTakeOfNews(t *testing.T) {
	x := begin(t, 1, 3)
	takes(t, x, "I010101;aA01+05", "A1001", "100;aA01+05")
	takes(t, x, "F210221;aA21-07", "A1202", "101;aA01+05aA21-07")
	want(t, "Read", answer3(x.Read("101", 0)), "A-2 101 0")
	want(t, "Set", answer(x.Set("101", 0, 0, 3)), "111 0")
	takes(t, x, "I010301020304;bB02+09cD04-99", "A1003", "411;aA11+03bB02+09cD04-99")
	takes(t, x, "F0104010203040511;bB02+09cD04-99", "A1004", "511;bB02+09cD04-99")
	want(t, "Read", answer3(x.Read("511", 0)), " 511 0")
	want(t, "Read", answer3(x.Read("500", 1)), "B9 511 0")
	takes(t, x, "I0105060708;", "A1005", "811;bB02+09cD04-99")
	takes(t, x, "I219909;aB09+00", "A1299", "911;aB09+00bB02+09cD04-99")
	log := x.Log()
	y := open(t, 1, 3, log)
	wantState(t, y, x.State())
	want(t, "Log", y.Log(), log)
	x.Compact()
	y.Compact()
	compact := frames("S07010203040506070809" + "1121;aB09+00bB02+09cD04-99")
	want(t, "Log", x.Log(), compact)
	want(t, "Log", y.Log(), compact)
	takes(t, x, "I010022;cA22+01", "A1000", "912;aB09+00bB02+09cA22+01cD04-99")
}

// P10: a message without a new dot changes nothing, though an entry would go
// by it; it is answered all the same, and is no delta.
func TestTakeOfNothingNew(t *testing.T) {
	x := begin(t, 0, 2)
	keeps(t, x, "I1000;", "A0100")
	keeps(t, x, "F1099;", "A0199")
	x.Add("00", 0, 0, 5)
	x.Add("00", 0, 1, 6)
	takes(t, x, "I100211;bA11+01", "A0102", "21;aA01+05aB02+06bA11+01")
	for _, told := range []string{
		";", "01;", "02;", "11;", "0102;", "010211;", "01;aA01+05", "0102;aA01+05", "0102;aB02+06", "010211;bA11+01",
		"010211;aA01+05aB02+06bA11+01",
	} {
		keeps(t, x, "I1002"+told, "A0102")
		keeps(t, x, "F1050"+told, "A0150")
	}
	x.Compact()
	want(t, "Log", x.Log(), frames("S03010211;aA01+05aB02+06bA11+01"))
	keeps(t, x, "I100211;", "A0102")
}

// P10: the answer's digits are those that came, whatever they tell.
func TestTakeAnswersTheDigits(t *testing.T) {
	x := begin(t, 2, 3)
	for count := 0; count < 100; count++ {
		keeps(t, x, fmt.Sprintf("I12%02d;", count), fmt.Sprintf("A21%02d", count))
		keeps(t, x, fmt.Sprintf("F02%02d;", count), fmt.Sprintf("A20%02d", count))
	}
}

// P10: each byte at each place ahead of the piece.
func TestTakeOfEachHeadByte(t *testing.T) {
	x := begin(t, 0, 2)
	for place := 0; place < 5; place++ {
		for b := 0; b < 256; b++ {
			letter := string([]byte{byte(b)})
			message := "I1001"[:place] + letter + "I1001"[place+1:] + ";"
			good := []string{"IF", "1", "0", "0123456789", "0123456789"}[place]
			others := []string{"", "02", "12", "", ""}[place]
			switch {
			case strings.Contains(good, letter):
				keeps(t, x, message, "A01"+message[3:5])
			case strings.Contains(others, letter):
				refuses(t, x, message, api.ErrWho)
			default:
				refuses(t, x, message, api.ErrText)
			}
		}
	}
}

// P10: texts that are no message.
func TestTakeOfTexts(t *testing.T) {
	x := begin(t, 0, 3)
	x.Add("000", 0, 0, 5)
	for _, text := range []string{
		"", "I", "F", "I1", "I10", "I100", "I1001", "I10011", "I100111", "I1001111", ";", "11;", "A0101", "A0101;", "D11;",
		"i100111;", "f100111;", "II00111;", "IF100111;", " I100111;", "I100111; ", "I100111;\n", "I1001 11;", "I1001 ;",
		"I10111;", "I1000111;", "I-10111;", "I+10111;", "I10+111;", "I10-111;", "I10 111;", "I100x11;", "I13;", "\x00\xff",
	} {
		refuses(t, x, text, api.ErrText)
	}
	for _, told := range []string{
		"1;", "111;", "10;", "00;", "31;", "91;", "1x;", "x1;", "1111;", "1211;", "2111;", "11;;", ";;", ";11", ";aA11+05",
		"11;aA11+0", "11;aA11+050", "11;aA11", "11;aA12+05", "11;aA21+05", "11;aA01+05", "11;dA11+05", "11;AA11+05",
		"11;aE11+05", "11;aa11+05", "11;aA11-00", "11;aA11 05", "11;aA11*05", "11;aA11+x5", "11;aA11+5x", "11;aA11+05;",
		"11;aA11+05aA11+05", "11;aA11+05aA11+06", "11;aA11+05aB11+05", "11;aA11+05bA11+05", "1112;aA12+05aA11+05",
		"1112;aB11+05aA12+05", "1112;bA11+05aA12+05", "11,aA11+05", "11aA11+05", "aA11+05", "aA11+05;11",
	} {
		refuses(t, x, "I1001"+told, api.ErrText)
		refuses(t, x, "F2099"+told, api.ErrText)
	}
	wantState(t, x, "100;aA01+05")
}

// P10: the longest message is taken, what is longer than MaxText is not. (A
// piece has 244 bytes at most, so what is longer than 249 has also no piece.)
func TestTakeOfLongTexts(t *testing.T) {
	dots, entries := "", ""
	for r := 0; r < 3; r++ {
		for k := 1; k <= 9; k++ {
			dots += fmt.Sprintf("%d%d", r, k)
			entries += fmt.Sprintf("cD%d%d-99", r, k)
		}
	}
	whole := "F0127" + dots + ";" + entries
	want(t, "its length", fmt.Sprint(len(whole), api.MaxText), "249 300")
	takes(t, begin(t, 1, 3), whole, "A1027", "999;"+entries)
	x := begin(t, 1, 3)
	for _, length := range []int{250, 299, 300, 301, 302, 1000, 1 << 20} {
		for _, letter := range []string{"0", "I", ";", " ", "\x00"} {
			refuses(t, x, strings.Repeat(letter, length), api.ErrText)
			refuses(t, x, whole+strings.Repeat(letter, length-len(whole)), api.ErrText)
			refuses(t, x, "I0101"+strings.Repeat(letter, length-5), api.ErrText)
		}
		refuses(t, x, "F0127"+strings.Repeat("01", length), api.ErrText)
		refuses(t, x, "F012701;"+strings.Repeat("aA01+05", length), api.ErrText)
	}
}

// P10: of each cluster, each replica, each sender, each goal, and dots of each.
func TestTakeFromAndTo(t *testing.T) {
	for n := 1; n <= 3; n++ {
		for me := 0; me < n; me++ {
			for from := 0; from < 3; from++ {
				for to := 0; to < 3; to++ {
					for maker := 0; maker < 3; maker++ {
						x := begin(t, me, n)
						message := fmt.Sprintf("I%d%d01%d1;", from, to, maker)
						if to != me || from == me || from >= n || maker >= n {
							refuses(t, x, message, api.ErrWho)
							continue
						}
						state := "000"[:maker] + "1" + "000"[maker+1:n] + ";"
						takes(t, x, message, fmt.Sprintf("A%d%d01", me, from), state)
					}
				}
			}
		}
	}
	x := begin(t, 0, 2)
	refuses(t, x, "I10010121;aA21+05", api.ErrWho)
	refuses(t, x, "F1001010211122122;aA01+05", api.ErrWho)
}

// P10: holes in what would come out, not in the piece alone.
func TestTakeOfHoles(t *testing.T) {
	x := begin(t, 0, 3)
	for _, told := range []string{
		"02;", "12;", "22;", "19;", "0103;", "0113;", "112122242526;", "020304;", "12;aA12+05", "010203040506070809" + "1122;",
	} {
		refuses(t, x, "I1001"+told, api.ErrGap)
		refuses(t, x, "F2001"+told, api.ErrGap)
	}
	x.Add("000", 0, 0, 1)
	takes(t, x, "I100102;", "A0101", "200;aA01+01")
	takes(t, x, "I10010211;", "A0101", "210;aA01+01")
	refuses(t, x, "I1001111315;", api.ErrGap)
	refuses(t, x, "I100113;", api.ErrGap)
	refuses(t, x, "I100104;", api.ErrGap)
	takes(t, x, "I10010312;", "A0101", "320;aA01+01")
	takes(t, x, "I100113;", "A0101", "330;aA01+01")
	takes(t, x, "F2001010313"+"2122;", "A0201", "332;")
	keeps(t, x, "I10010313;", "A0101")
	for number := 4; number <= 9; number++ {
		state := fmt.Sprintf("3%d2;", number)
		takes(t, x, fmt.Sprintf("I10011%d;", number), "A0101", state)
	}
}

// P10: another entry of a dot clashes with one that is held, with news or
// without; the same entry does not, nor one of a dot whose entry is gone.
func TestTakeOfClashes(t *testing.T) {
	x := begin(t, 0, 2)
	x.Add("00", 1, 1, 5)
	x.Add("00", 0, 0, 0)
	takes(t, x, "I100111;bB11+05", "A0101", "21;aA02+00bB01+05bB11+05")
	for _, told := range []string{
		"01;bB01+06", "01;bB01-05", "01;aB01+05", "01;cB01+05", "01;bA01+05", "01;bD01+05", "02;aA02+01", "11;bB11+04",
		"0112;bB01+06", "010203;aA03+01bB01+06", "0102;aA02+01bB01+05", "010211;aA02+00bB01+05bB11-05", "1112;bA11+05",
	} {
		refuses(t, x, "I1001"+told, api.ErrClash)
		refuses(t, x, "F1001"+told, api.ErrClash)
	}
	keeps(t, x, "I100101;bB01+05", "A0101")
	takes(t, x, "I10010112;bB01+05", "A0101", "22;aA02+00bB01+05bB11+05")
	takes(t, x, "I10010113;", "A0101", "23;aA02+00bB11+05")
	keeps(t, x, "I100101;bB01+06", "A0101")
	takes(t, x, "I10010114;bB01+06", "A0101", "24;aA02+00bB11+05")
	takes(t, x, "I1001011215;aA12+01bB01+05", "A0101", "25;aA02+00bB11+05")
}

// P1, P10: where several errors apply, the first is the answer.
func TestTakeOfSeveralFaults(t *testing.T) {
	x := begin(t, 0, 2)
	x.Add("00", 0, 0, 1)
	for _, text := range []string{
		"J010111;", "I200111", "I100111;aA11-00", "I21013;", "I100121;aA21", "I100113;x", "I1001" + "0113;aA01+02 ",
		"F0101" + strings.Repeat("0121", 100) + ";", "I22013131;",
	} {
		refuses(t, x, text, api.ErrText)
	}
	for _, text := range []string{
		"I010113;", "I110113;aA13+05", "I000101;aA01+02", "I010101;aA01+02", "I120101;aA01+02", "I200113;", "I200101;aA01+02",
		"I100122;", "I10010121;aA01+02", "I100121;aA21+05", "I10010113" + "21;aA01+02", "I000113;",
	} {
		refuses(t, x, text, api.ErrWho)
	}
	for _, text := range []string{"I10010113;aA01+02", "I10010103;aA01+02", "F1001010212;aB01+01"} {
		refuses(t, x, text, api.ErrGap)
	}
	refuses(t, x, "I10010111;aA01+02", api.ErrClash)
	wantState(t, x, "10;aA01+01")
	want(t, "Log", x.Log(), frames("D01;aA01+01"))
}

// P2, P10: a message taken by one replica is not known to another.
func TestTakeSideBySide(t *testing.T) {
	x := begin(t, 0, 2)
	y := begin(t, 0, 2)
	takes(t, x, "I100111;aA11+05", "A0101", "01;aA11+05")
	wantState(t, y, "00;")
	want(t, "Log", y.Log(), "")
	takes(t, y, "I100111;aA11+06", "A0101", "01;aA11+06")
	wantState(t, x, "01;aA11+05")
	want(t, "Log", x.Log(), frames("D11;aA11+05"))
}

// P10: what is taken is what is held, in whatever order the messages come.
func TestTakeInAnyOrder(t *testing.T) {
	messages := []string{"I020101;aA01+05", "I12010111;aA11+07", "I020202;bB02-01", "F1209010211;aA11+07bB02-01"}
	for i := 0; i < 256; i++ {
		x := begin(t, 2, 3)
		for k := i; k > 0; k /= 4 {
			x.Take(messages[k%4])
		}
		x.Take(messages[3])
		wantState(t, x, "210;aA11+07bB02-01")
	}
}

// P6, P10: an event's number goes on behind the last of its own that it
// knows, though it was told of it: here a new replica 0 that learns what 1 knows.
func TestNumberBehindLearntOnes(t *testing.T) {
	x := begin(t, 0, 2)
	takes(t, x, "F1001010211;aA02+05", "A0101", "21;aA02+05")
	want(t, "Add", answer(x.Add("21", 0, 1, 6)), "31 0")
	wantState(t, x, "31;aA02+05aB03+06")
	want(t, "Remove", answer(x.Remove("31", 0, 0)), "41 0")
	want(t, "Log", x.Log(), frames("D010211;aA02+05", "D03;aB03+06", "D0204;"))
}

// P6, P10: events of others do not fill a replica up, its own do, told or made.
func TestFullOfOwnAlone(t *testing.T) {
	for me := 0; me < 2; me++ {
		x := begin(t, me, 3)
		takes(t, x, fmt.Sprintf("F2%d01111213141516171819;", me), fmt.Sprintf("A%d201", me), "090;")
		want(t, "Add", answer(x.Add("090", 0, 0, 1)), []string{"190 0", " 4"}[me])
	}
}

// P5, P10: a token is stale until the replica was told what its owner has seen.
func TestStaleUntilTold(t *testing.T) {
	x := begin(t, 1, 2)
	want(t, "Read", answer3(x.Read("20", 0)), "  3")
	takes(t, x, "I010101;", "A1001", "10;")
	want(t, "Read", answer3(x.Read("20", 0)), "  3")
	takes(t, x, "I010202;aC02-05", "A1002", "20;aC02-05")
	want(t, "Read", answer3(x.Read("20", 0)), "C-5 20 0")
}

// P7: the greatest and the least sum there can be.
func TestGreatestSum(t *testing.T) {
	for _, value := range []int{api.MaxValue, -api.MaxValue} {
		dots, entries := "", ""
		for r := 0; r < api.MaxReplicas; r++ {
			for k := 1; k <= api.MaxEvents; k++ {
				dots += fmt.Sprintf("%d%d", r, k)
				entries += fmt.Sprintf("cD%d%d%+03d", r, k, value)
			}
		}
		x := begin(t, 2, 3)
		takes(t, x, "F0227"+dots+";"+entries, "A2027", "999;"+entries)
		want(t, "Read", answer3(x.Read("999", 2)), fmt.Sprintf("D%d 999 0", 27*value))
	}
}
