package piece

import (
	"fmt"
	"math/rand"
	"regexp"
	"sort"
	"strings"
	"testing"

	"carts/api"
)

func TestTextByHand(t *testing.T) {
	var p Piece
	if got := p.Text(); got != ";" {
		t.Errorf("the empty piece: %q", got)
	}
	p = p.WithEntry(1, 1, Entry{1, 0, 10})
	p = p.WithDot(0, 1)
	p = p.WithEntry(0, 2, Entry{0, 1, -5})
	if got := p.Text(); got != "010211;aB02-05bA11+10" {
		t.Errorf("the document's piece: %q", got)
	}
}

// What is written is read again, and is what the plain piece says.
func TestTextAndReadAtRandom(t *testing.T) {
	g := rand.New(rand.NewSource(3))
	for i := 0; i < 3000; i++ {
		p, twin := random(g)
		text := p.Text()
		if want := rising(twin.dots) + ";" + rising(twin.entries); text != want {
			t.Fatalf("Text() = %q, want %q", text, want)
		}
		if got, good := Read(text); got != p || !good {
			t.Fatalf("Read(%q): %v, %v", text, got, good)
		}
		if got := p.Size(); got != len(twin.dots) {
			t.Fatalf("Size of %q: %d", text, got)
		}
	}
}

// The fullest piece: all dots, an entry of each.
func TestFullest(t *testing.T) {
	var p Piece
	for r := 0; r < api.MaxReplicas; r++ {
		for k := 1; k <= api.MaxEvents; k++ {
			p = p.WithEntry(r, k, Entry{2 - r, k % 4, 11*k - 99*(k%2)})
		}
	}
	text := p.Text()
	if got, good := Read(text); got != p || !good || len(text) != 244 || p.Size() != 27 || p.HasHole() {
		t.Errorf("%q: %v, %v", text, got, good)
	}
}

func TestReadByHand(t *testing.T) {
	good := []string{
		";", "01;", "29;", "0129;", "010203;", "13;", "01;aA01+00", "01;cD01-99", "01;aA01+99", "010211;aB02-05bA11+10",
		"0102;aA01+05aA02+05", "0111;aA01+05aA11-05", "0102;aA02+05aB01+05", "010203;aA02-01",
	}
	for _, text := range good {
		if p, ok := Read(text); !ok || p.Text() != text {
			t.Errorf("Read(%q): %v, %v", text, p, ok)
		}
	}
	bad := []string{
		"", "0", "01", "0;", "011;", "00;", "10;", "30;", "31;", "91;", "0a;", "a1;", "0:;", "/1;", " 01;", "01 ;", "01; ",
		"0101;", "0201;", "1101;", "010302;", ";;", "01;;", ";01", ";aA01+05", "01;aA01+0", "01;aA01+050", "01;aA01+05;",
		"01;aA01-00", "01;aA01*05", "01;aA01 05", "01;aA01005", "01;aA01+x5", "01;aA01+5x", "01;aA01+0:", "01;aA01+/0",
		"01;dA01+05", "01;`A01+05", "01;AA01+05", "01;aE01+05", "01;a@01+05", "01;aa01+05", "01;aA02+05", "01;aA11+05",
		"01;aA00+05", "01;aA0x+05", "01;aA31+05", "01;aA01+05aA01+05", "01;aA01+05aB01+05", "01;aA01+05bA01+05",
		"01;aA01+05aA01+06", "0102;aA02+05aA01+05", "0102;aB01+05aA02+05", "0102;bA01+05aA02+05", "0102;aA01+05 aA02+05",
		"01,aA01+05", "01aA01+05", "01aA01+05;", "aA01+05", "aA01+05;01", "01;\x00\x00\x00\x00\x00\x00\x00", "\xff\xff;",
		strings.Repeat("01", 1<<16), strings.Repeat(";", 1<<16), "01;" + strings.Repeat("aA01+05", 1<<12),
	}
	for _, text := range bad {
		if p, ok := Read(text); ok || p != (Piece{}) {
			t.Errorf("Read(%.40q): %v, %v", text, p, ok)
		}
	}
}

var written = regexp.MustCompile(`^((?:[0-2][1-9])*);((?:[abc][A-D][0-2][1-9][+-][0-9][0-9])*)$`)

// cut cuts a text into parts of so many bytes.
func cut(text string, size int) []string {
	var parts []string
	for ; text != ""; text = text[size:] {
		parts = append(parts, text[:size])
	}
	return parts
}

func strictlyRising(list []string) bool {
	for i := 1; i < len(list); i++ {
		if list[i-1] >= list[i] {
			return false
		}
	}
	return true
}

// isWritten follows the document's words on how a piece is written.
func isWritten(text string) bool {
	parts := written.FindStringSubmatch(text)
	if parts == nil {
		return false
	}
	dots, entries := cut(parts[1], 2), cut(parts[2], 7)
	if !strictlyRising(dots) || !strictlyRising(entries) {
		return false
	}
	used := map[string]bool{}
	for _, e := range entries {
		dot := e[2:4]
		i := sort.SearchStrings(dots, dot)
		if i == len(dots) || dots[i] != dot || used[dot] || e[4:] == "-00" {
			return false
		}
		used[dot] = true
	}
	return true
}

// change makes one to three small changes to a text.
func change(g *rand.Rand, text string) string {
	letters := "0011223459;;abcdABCDE++--x"
	for i := g.Intn(3); i >= 0; i-- {
		at := g.Intn(len(text) + 1)
		letter := letters[g.Intn(len(letters)):][:1]
		switch to := at + 1 + g.Intn(7); {
		case g.Intn(3) == 0:
			text = text[:at] + letter + text[at:]
		case to <= len(text) && g.Intn(3) == 0:
			text = text[:at] + text[to:]
		case to <= len(text) && g.Intn(3) == 0:
			text = text[:to] + text[at:]
		case at < len(text):
			text = text[:at] + letter + text[at+1:]
		}
	}
	return text
}

// Read takes just the texts that are written as the document says.
func TestReadOfChangedTexts(t *testing.T) {
	g := rand.New(rand.NewSource(4))
	taken := 0
	for i := 0; i < 60000; i++ {
		var p Piece
		for k := g.Intn(5); k > 0; k-- {
			r, number := g.Intn(3), 1+g.Intn(4)
			p = p.WithDot(r, number)
			if g.Intn(2) == 0 {
				p = p.WithEntry(r, number, Entry{g.Intn(3), g.Intn(4), g.Intn(3)*10 - 10})
			}
		}
		text := change(g, p.Text())
		got, good := Read(text)
		if good != isWritten(text) {
			t.Fatalf("Read(%q): %v", text, good)
		}
		if good && got.Text() != text || !good && got != (Piece{}) {
			t.Fatalf("Read(%q): %v", text, got)
		}
		if good {
			taken++
		}
	}
	if taken < 2000 || taken > 58000 {
		t.Errorf("%d texts were pieces: too few of one kind", taken)
	}
}

func mustRead(t *testing.T, text string) Piece {
	t.Helper()
	p, good := Read(text)
	if !good {
		t.Fatalf("Read(%q)", text)
	}
	return p
}

func TestHasHole(t *testing.T) {
	for _, text := range []string{";", "01;", "010203040506070809;", "0111;", "01020311122122;", "111213141516171819;"} {
		if p := mustRead(t, text); p.HasHole() {
			t.Errorf("%q has no hole", text)
		}
	}
	for _, text := range []string{"02;", "09;", "0103;", "01020304050607" + "09;", "0112;", "01112123;", "29;", "0203040506070809;"} {
		if p := mustRead(t, text); !p.HasHole() {
			t.Errorf("%q has a hole", text)
		}
	}
	g := rand.New(rand.NewSource(5))
	for i := 0; i < 1000; i++ {
		p, twin := random(g)
		want := false
		for dot := range twin.dots {
			ahead := fmt.Sprintf("%c%c", dot[0], dot[1]-1)
			want = want || dot[1] > '1' && !twin.dots[ahead]
		}
		if p.HasHole() != want {
			t.Fatalf("%q: %v", p.Text(), !want)
		}
	}
}

func TestClash(t *testing.T) {
	cases := []struct {
		p, q string
		want bool
	}{
		{";", ";", false},
		{"01;aA01+05", ";", false},
		{"01;aA01+05", "01;", false},
		{"01;aA01+05", "01;aA01+05", false},
		{"01;aA01+05", "01;aA01+06", true},
		{"01;aA01+05", "01;aA01-05", true},
		{"01;aA01+05", "01;aB01+05", true},
		{"01;aA01+05", "01;bA01+05", true},
		{"01;aA01+05", "02;aA02+06", false},
		{"01;aA01+05", "11;aA11+06", false},
		{"0129;aA01+05cD29+00", "0129;aA01+05cD29+01", true},
	}
	for _, c := range cases {
		p, q := mustRead(t, c.p), mustRead(t, c.q)
		if Clash(p, q) != c.want || Clash(q, p) != c.want {
			t.Errorf("Clash(%q, %q): want %v", c.p, c.q, c.want)
		}
	}
}
