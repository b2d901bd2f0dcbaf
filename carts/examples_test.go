package carts_test

import (
	"testing"

	"carts/carts"
)

func cluster(t *testing.T, n int) []*carts.Replica {
	t.Helper()
	var xs []*carts.Replica
	for i := 0; i < n; i++ {
		xs = append(xs, begin(t, i, n))
	}
	return xs
}

// The document's examples, one call behind the other.
func TestExamples(t *testing.T) {
	xs := cluster(t, 3)
	x0, x1, x2 := xs[0], xs[1], xs[2]
	want(t, "State", x0.State(), "000;")
	want(t, "Add", answer(x0.Add("000", 0, 0, 5)), "100 0")
	want(t, "Add", answer(x0.Add("000", 0, 1, -2)), "200 0")
	want(t, "State", x0.State(), "200;aA01+05aB02-02")
	want(t, "Log", x0.Log(), "011D01;aA01+05011D02;aB02-02")
	want(t, "Ship", answer(x0.Ship(1)), "I01020102;aA01+05aB02-02 0")
	want(t, "Take", answer(x1.Take("I01020102;aA01+05aB02-02")), "A1002 0")
	want(t, "Set", answer(x1.Set("200", 0, 0, 3)), "210 0")
	want(t, "Add", answer(x0.Add("210", 0, 0, 1)), " 3")
	want(t, "Add", answer(x0.Add("000", 0, 0, 1)), "300 0")
	want(t, "State", x1.State(), "210;aA11+03aB02-02")
	want(t, "Ship", answer(x1.Ship(0)), "I1002010211;aA11+03aB02-02 0")
	want(t, "Take", answer(x0.Take("I1002010211;aA11+03aB02-02")), "A0102 0")
	want(t, "Read", answer3(x0.Read("210", 0)), "A4,B-2 310 0")
	want(t, "State", x0.State(), "310;aA03+01aA11+03aB02-02")
	want(t, "Acked", answer("", x0.Acked("A1002")), " 0")
	want(t, "Ship", answer(x0.Ship(1)), "I010401020311;aA03+01aA11+03aB02-02 0")
	want(t, "Take", answer(x2.Take("I010401020311;aA03+01aA11+03aB02-02")), " 6")
	want(t, "Take", answer(x2.Take("I020401020311;aA03+01aA11+03aB02-02")), "A2004 0")
	want(t, "Clear", answer(x0.Clear("000", 0)), "410 0")
	want(t, "Ship", answer(x0.Ship(2)), "F02050102030411; 0")
	want(t, "Take", answer(x2.Take("F02050102030411;")), "A2005 0")
	want(t, "State", x2.State(), "410;")
	want(t, "Log", x2.Log(), "031D01020311;aA03+01aA11+03aB02-02012D0102030411;")
	want(t, "Acked", answer("", x0.Acked("A2099")), " 9")
	want(t, "Take", answer(x2.Take("I1201111213;aA13+01")), "A2101 0")
	want(t, "Take", answer(x2.Take("I120113;")), "A2101 0")
	want(t, "Add", answer(x2.Add("310", 2, 3, 7)), "431 0")
	want(t, "Take", answer(x2.Take("F02090102030411122122;cD22+08")), "A2009 0")
	x2.Compact()
	want(t, "Log", x2.Log(), "036S05010203041112132122;aA13+01cD22+08")
	y := open(t, 2, 3, x2.Log()+"027D")
	want(t, "State", y.State(), "432;aA13+01cD22+08")
	noLog(t, 2, 3, x2.Log()+"001D")
	_, e := carts.Open(0, 4, "")
	want(t, "Open", answer("", e), " 1")
}
