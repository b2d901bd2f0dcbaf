package carts

import (
	"fmt"
	"math/rand"
	"regexp"
	"sort"
	"strconv"
	"strings"
	"testing"

	"carts/api"
)

type set map[string]bool

// paper is a replica as the document words it: sets of texts.
type paper struct {
	me, n   int
	dots    set
	entries set
	had     int
	frames  []string
}

func newPaper(me, n int) *paper {
	return &paper{me: me, n: n, dots: set{}, entries: set{}}
}

func rising(s set) string {
	var list []string
	for text := range s {
		list = append(list, text)
	}
	sort.Strings(list)
	return strings.Join(list, "")
}

func framed(body string) string { return fmt.Sprintf("%03d%s", len(body), body) }

func (p *paper) join(dots, entries set) {
	kept := set{}
	for e := range p.entries {
		if entries[e] || !dots[e[2:4]] {
			kept[e] = true
		}
	}
	for e := range entries {
		if p.entries[e] || !p.dots[e[2:4]] {
			kept[e] = true
		}
	}
	p.entries = kept
	for d := range dots {
		p.dots[d] = true
	}
}

func (p *paper) learn(dots, entries set) {
	p.join(dots, entries)
	p.had++
	p.frames = append(p.frames, framed("D"+rising(dots)+";"+rising(entries)))
}

func (p *paper) knowsAll(dots set) bool {
	for d := range dots {
		if !p.dots[d] {
			return false
		}
	}
	return true
}

func (p *paper) log() string { return strings.Join(p.frames, "") }

func (p *paper) compact() {
	p.frames = []string{framed(fmt.Sprintf("S%02d%s;%s", p.had, rising(p.dots), rising(p.entries)))}
}

func (p *paper) digits() string {
	text := ""
	for r := 0; r < p.n; r++ {
		count := 0
		for d := range p.dots {
			if d[:1] == fmt.Sprint(r) {
				count++
			}
		}
		text += fmt.Sprint(count)
	}
	return text
}

func (p *paper) state() string { return p.digits() + ";" + rising(p.entries) }

// event makes the event whose entry begins with lay ("" for none), and takes
// away the entries that begin with take ("" for none).
func (p *paper) event(token, take, lay string, value int) string {
	for r := 0; r < p.n; r++ {
		if token[r] > p.digits()[r] {
			return " 3"
		}
	}
	own := p.digits()[p.me]
	if own == '9' {
		return " 4"
	}
	dot := fmt.Sprintf("%d%c", p.me, own+1)
	dots := set{dot: true}
	for e := range p.entries {
		if take != "" && strings.HasPrefix(e, take) {
			dots[e[2:4]] = true
		}
	}
	entries := set{}
	if lay != "" {
		entries[fmt.Sprintf("%s%s%+03d", lay, dot, value)] = true
	}
	p.learn(dots, entries)
	return p.digits() + " 0"
}

func (p *paper) read(cart string) string {
	var list []string
	for _, item := range []string{"A", "B", "C", "D"} {
		sum, found := 0, false
		for e := range p.entries {
			if strings.HasPrefix(e, cart+item) {
				value, _ := strconv.Atoi(e[4:])
				sum, found = sum+value, true
			}
		}
		if found {
			list = append(list, fmt.Sprintf("%s%d", item, sum))
		}
	}
	return strings.Join(list, ",")
}

var (
	threeDigits = regexp.MustCompile(`^[0-9]{3}`)
	frameBody   = regexp.MustCompile(`^(?:D|S([0-9]{2}))((?:[0-2][1-9])*);((?:[abc][A-D][0-2][1-9][+-][0-9]{2})*)$`)
)

// openPaper reads a log by P9's words; nil for what is none.
func openPaper(me, n int, log string) *paper {
	p := newPaper(me, n)
	for len(log) <= api.MaxLog {
		if len(log) < 3 {
			return p
		}
		if !threeDigits.MatchString(log) {
			return nil
		}
		length, _ := strconv.Atoi(log[:3])
		if length > len(log[3:]) {
			return p
		}
		if !p.takeFrame(log[:3+length]) {
			return nil
		}
		log = log[3+length:]
	}
	return nil
}

func (p *paper) takeFrame(frame string) bool {
	parts := frameBody.FindStringSubmatch(frame[3:])
	if parts == nil {
		return false
	}
	dots, entries := set{}, set{}
	for i := 0; i < len(parts[2]); i += 2 {
		dots[parts[2][i:i+2]] = true
	}
	entryDots := set{}
	for i := 0; i < len(parts[3]); i += 7 {
		e := parts[3][i : i+7]
		entries[e] = true
		if !dots[e[2:4]] || entryDots[e[2:4]] || e[4:] == "-00" {
			return false
		}
		entryDots[e[2:4]] = true
		for there := range p.entries {
			if there[2:4] == e[2:4] && there != e {
				return false
			}
		}
	}
	if rising(dots) != parts[2] || rising(entries) != parts[3] {
		return false
	}
	for d := range dots {
		if int(d[0]-'0') >= p.n {
			return false
		}
	}
	if frame[3] == 'S' {
		p.had, _ = strconv.Atoi(parts[1])
		if len(p.frames) > 0 || p.had > len(dots) {
			return false
		}
	} else {
		if p.knowsAll(dots) {
			return false
		}
		p.had++
	}
	p.join(dots, entries)
	for d := range p.dots {
		if d[1] > '1' && !p.dots[fmt.Sprintf("%c%c", d[0], d[1]-1)] {
			return false
		}
	}
	p.frames = append(p.frames, frame)
	return true
}

// step makes one call on the replica and on the paper alike.
func step(t *testing.T, g *rand.Rand, x *Replica, p *paper) {
	t.Helper()
	cart, item, value := g.Intn(2), g.Intn(2), g.Intn(199)-99
	at := "abc"[cart:cart+1] + "ABCD"[item:item+1]
	token := p.digits()
	if g.Intn(3) == 0 {
		token = fmt.Sprintf("%03d", g.Intn(1000))[3-p.n:]
	}
	switch g.Intn(9) {
	case 0, 1, 2, 3:
		is(t, "Add", told(x.Add(token, cart, item, value)), p.event(token, "", at, value))
	case 4, 5:
		value = g.Intn(100)
		is(t, "Set", told(x.Set(token, cart, item, value)), p.event(token, at, at, value))
	case 6:
		is(t, "Remove", told(x.Remove(token, cart, item)), p.event(token, at, "", 0))
	case 7:
		is(t, "Clear", told(x.Clear(token, cart)), p.event(token, at[:1], "", 0))
	case 8:
		x.Compact()
		p.compact()
	}
	alike(t, x, p)
}

// alike compares all that can be asked of a replica and its paper.
func alike(t *testing.T, x *Replica, p *paper) {
	t.Helper()
	is(t, "State", x.State(), p.state())
	is(t, "Log", x.Log(), p.log())
	for cart, letter := range []string{"a", "b", "c"} {
		sums, digits, e := x.Read(p.digits(), cart)
		is(t, "Read", sums+" "+told(digits, e), p.read(letter)+" "+p.digits()+" 0")
	}
}

// play lets a cluster and its papers make events, learn what others hold, and
// open their logs again.
func play(t *testing.T, g *rand.Rand, n, calls int) ([]*Replica, []*paper) {
	t.Helper()
	xs := cluster(n)
	var ps []*paper
	for i := range xs {
		ps = append(ps, newPaper(i, n))
	}
	for i := 0; i < calls; i++ {
		to, from := g.Intn(n), g.Intn(n)
		if g.Intn(4) == 0 && !ps[to].knowsAll(ps[from].dots) {
			xs[to].learn(xs[from].held)
			ps[to].learn(ps[from].dots, ps[from].entries)
		}
		if g.Intn(8) == 0 {
			var e api.Errno
			xs[to], e = Open(to, n, xs[to].Log())
			is(t, "Open", told("", e), " 0")
		}
		step(t, g, xs[to], ps[to])
	}
	return xs, ps
}

// P4 to P9: replicas that make events, learn what the others hold, and are
// opened again do what the document's words do on paper; in the end all hold
// the same.
func TestAsOnPaper(t *testing.T) {
	g := rand.New(rand.NewSource(2))
	for round := 0; round < 400; round++ {
		n := 1 + g.Intn(3)
		xs, _ := play(t, g, n, 60)
		for i := 0; i < 2*n; i++ {
			xs[(i+1)%n].learn(xs[i%n].held)
		}
		for _, x := range xs {
			is(t, "State in the end", x.State(), xs[0].State())
		}
	}
}

// P9: every beginning of a log opens, with the frames that are whole in it.
func TestEveryCut(t *testing.T) {
	g := rand.New(rand.NewSource(6))
	for round := 0; round < 30; round++ {
		n := 1 + g.Intn(3)
		xs, ps := play(t, g, n, 20)
		log := xs[0].Log()
		for end := 0; end <= len(log); end++ {
			y, e := Open(0, n, log[:end])
			is(t, "Open of a beginning", told("", e), " 0")
			whole := ""
			for _, frame := range ps[0].frames {
				if len(whole)+len(frame) > end {
					break
				}
				whole += frame
			}
			is(t, "Log of a beginning", y.Log(), whole)
		}
	}
}

// wrong makes a small change to a log: a byte, a frame, or its end.
func wrong(g *rand.Rand, frames []string) string {
	list := append([]string{}, frames...)
	if len(list) == 0 {
		list = []string{""}
	}
	i, j := g.Intn(len(list)), g.Intn(len(list))
	letters := "001122349;abcABD+-SDx"
	switch g.Intn(7) {
	case 0:
		list[i], list[j] = list[j], list[i]
	case 1:
		list[i] += list[j]
	case 2:
		list[i] = ""
	case 3:
		list[i] = framed(letters[g.Intn(len(letters)):])
	case 4:
		if len(list[i]) > 3 {
			list[i] = framed(list[i][3:] + list[j][len(list[j])-7*g.Intn(2):])
		}
	case 5:
		list = append(list, "0040120"[:g.Intn(8)])
	}
	log := strings.Join(list, "")
	if log != "" && g.Intn(2) == 0 {
		at := g.Intn(len(log))
		log = log[:at] + letters[g.Intn(len(letters)):][:1] + log[at+1:]
	}
	return log
}

// P9: logs that were changed are taken or refused as on paper, and what was
// opened goes on as on paper.
func TestOpenOfChangedLogs(t *testing.T) {
	g := rand.New(rand.NewSource(7))
	taken, refused := 0, 0
	for round := 0; round < 1500; round++ {
		n := 1 + g.Intn(3)
		_, ps := play(t, g, n, 2+g.Intn(8))
		for i := 0; i < 20; i++ {
			log := wrong(g, ps[0].frames)
			n := 1 + g.Intn(3)
			p := openPaper(0, n, log)
			x, e := Open(0, n, log)
			if (p == nil) != (e == api.ErrLog) || (x == nil) != (e != api.OK) {
				t.Fatalf("Open(0, %d, %q): %d", n, log, e)
			}
			if p == nil {
				refused++
				continue
			}
			taken++
			alike(t, x, p)
			step(t, g, x, p)
			x.Compact()
			p.compact()
			alike(t, x, p)
		}
	}
	if taken < 3000 || refused < 3000 {
		t.Errorf("%d taken, %d refused: too few of one kind", taken, refused)
	}
}
