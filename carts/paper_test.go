package carts_test

import (
	"fmt"
	"math/rand"
	"regexp"
	"sort"
	"strconv"
	"strings"
	"testing"

	"carts/api"
	"carts/carts"
)

type set map[string]bool

func rising(s set) string {
	var list []string
	for text := range s {
		list = append(list, text)
	}
	sort.Strings(list)
	return strings.Join(list, "")
}

// plain is a piece as the document words it: sets of texts.
type plain struct{ dots, entries set }

func newPlain() plain { return plain{set{}, set{}} }

func (q plain) text() string { return rising(q.dots) + ";" + rising(q.entries) }

func joinPlain(p, q plain) plain {
	joined := newPlain()
	for e := range p.entries {
		if q.entries[e] || !q.dots[e[2:4]] {
			joined.entries[e] = true
		}
	}
	for e := range q.entries {
		if p.entries[e] || !p.dots[e[2:4]] {
			joined.entries[e] = true
		}
	}
	for d := range p.dots {
		joined.dots[d] = true
	}
	for d := range q.dots {
		joined.dots[d] = true
	}
	return joined
}

func (q plain) hasHole() bool {
	for d := range q.dots {
		if d[1] > '1' && !q.dots[fmt.Sprintf("%c%c", d[0], d[1]-1)] {
			return true
		}
	}
	return false
}

var pieceForm = regexp.MustCompile(`^((?:[0-2][1-9])*);((?:[abc][A-D][0-2][1-9][+-][0-9]{2})*)$`)

// readPlain reads a piece by the document's words.
func readPlain(text string) (plain, bool) {
	q := newPlain()
	parts := pieceForm.FindStringSubmatch(text)
	if parts == nil {
		return q, false
	}
	for i := 0; i < len(parts[1]); i += 2 {
		q.dots[parts[1][i:i+2]] = true
	}
	entryDots := set{}
	for i := 0; i < len(parts[2]); i += 7 {
		e := parts[2][i : i+7]
		if !q.dots[e[2:4]] || entryDots[e[2:4]] || e[4:] == "-00" {
			return q, false
		}
		q.entries[e] = true
		entryDots[e[2:4]] = true
	}
	return q, q.text() == text
}

// paper is a replica as the document words it.
type paper struct {
	me, n  int
	held   plain
	had    int
	frames []string
	deltas map[int]plain        // those since New or Open, by their numbers
	acked  [api.MaxReplicas]int // up to which number each replica has acknowledged
}

func newPaper(me, n int) *paper {
	return &paper{me: me, n: n, held: newPlain(), deltas: map[int]plain{}}
}

func framed(body string) string { return fmt.Sprintf("%03d%s", len(body), body) }

func (p *paper) learn(delta plain) {
	p.held = joinPlain(p.held, delta)
	p.had++
	p.frames = append(p.frames, framed("D"+delta.text()))
	p.deltas[p.had] = delta
}

func (p *paper) knowsAll(q plain) bool {
	for d := range q.dots {
		if !p.held.dots[d] {
			return false
		}
	}
	return true
}

// fault tells by its error why a piece may not be joined; 0 if it may.
func (p *paper) fault(q plain) api.Errno {
	for d := range q.dots {
		if int(d[0]-'0') >= p.n {
			return api.ErrWho
		}
	}
	if joinPlain(p.held, q).hasHole() {
		return api.ErrGap
	}
	for e := range q.entries {
		for there := range p.held.entries {
			if there[2:4] == e[2:4] && there != e {
				return api.ErrClash
			}
		}
	}
	return api.OK
}

func (p *paper) log() string { return strings.Join(p.frames, "") }

func (p *paper) compact() {
	p.frames = []string{framed(fmt.Sprintf("S%02d%s", p.had, p.held.text()))}
}

func (p *paper) digits() string {
	text := ""
	for r := 0; r < p.n; r++ {
		count := 0
		for d := range p.held.dots {
			if d[:1] == fmt.Sprint(r) {
				count++
			}
		}
		text += fmt.Sprint(count)
	}
	return text
}

func (p *paper) state() string { return p.digits() + ";" + rising(p.held.entries) }

// event makes the event whose entry begins with lay ("" for none), and takes
// away the entries that begin with take ("" for none).
func (p *paper) event(token, take, lay string, value int) string {
	for r := 0; r < p.n; r++ {
		if token[r] > p.digits()[r] {
			return " 3"
		}
	}
	own := p.digits()[p.me]
	if own == '9' {
		return " 4"
	}
	dot := fmt.Sprintf("%d%c", p.me, own+1)
	delta := newPlain()
	delta.dots[dot] = true
	for e := range p.held.entries {
		if take != "" && strings.HasPrefix(e, take) {
			delta.dots[e[2:4]] = true
		}
	}
	if lay != "" {
		delta.entries[fmt.Sprintf("%s%s%+03d", lay, dot, value)] = true
	}
	p.learn(delta)
	return p.digits() + " 0"
}

func (p *paper) read(cart string) string {
	var list []string
	for _, item := range []string{"A", "B", "C", "D"} {
		sum, found := 0, false
		for e := range p.held.entries {
			if strings.HasPrefix(e, cart+item) {
				value, _ := strconv.Atoi(e[4:])
				sum, found = sum+value, true
			}
		}
		if found {
			list = append(list, fmt.Sprintf("%s%d", item, sum))
		}
	}
	return strings.Join(list, ",")
}

var (
	threeDigits = regexp.MustCompile(`^[0-9]{3}`)
	frameForm   = regexp.MustCompile(`(?s)^(?:D|S([0-9]{2}))(.*)$`)
	messageForm = regexp.MustCompile(`(?s)^[IF]([0-2])([0-2])([0-9]{2})(.*)$`)
	answerForm  = regexp.MustCompile(`^A([0-2])([0-2])([0-9]{2})$`)
)

// openPaper reads a log by P9's words; nil for what is none.
func openPaper(me, n int, log string) *paper {
	p := newPaper(me, n)
	if !p.takeLog(log) {
		return nil
	}
	p.deltas = map[int]plain{}
	return p
}

func (p *paper) takeLog(log string) bool {
	for len(log) <= api.MaxLog {
		if len(log) < 3 {
			return true
		}
		if !threeDigits.MatchString(log) {
			return false
		}
		length, _ := strconv.Atoi(log[:3])
		if length > len(log[3:]) {
			return true
		}
		if !p.takeFrame(log[3 : 3+length]) {
			return false
		}
		log = log[3+length:]
	}
	return false
}

func (p *paper) takeFrame(body string) bool {
	parts := frameForm.FindStringSubmatch(body)
	if parts == nil {
		return false
	}
	q, good := readPlain(parts[2])
	if !good || p.fault(q) != api.OK {
		return false
	}
	if body[0] == 'D' {
		if p.knowsAll(q) {
			return false
		}
		p.learn(q)
		return true
	}
	p.had, _ = strconv.Atoi(parts[1])
	if len(p.frames) > 0 || p.had > len(q.dots) {
		return false
	}
	p.held = q
	p.compact()
	return true
}

// take takes a message by P10's words.
func (p *paper) take(message string) string {
	parts := messageForm.FindStringSubmatch(message)
	if parts == nil || len(message) > api.MaxText {
		return " 5"
	}
	from, to, count := parts[1], parts[2], parts[3]
	q, good := readPlain(parts[4])
	if !good {
		return " 5"
	}
	me := fmt.Sprint(p.me)
	if to != me || from == me || from >= fmt.Sprint(p.n) {
		return " 6"
	}
	if e := p.fault(q); e != api.OK {
		return fmt.Sprintf(" %d", e)
	}
	if !p.knowsAll(q) {
		p.learn(q)
	}
	return "A" + me + from + count + " 0"
}

// ship writes a message by P11's words.
func (p *paper) ship(to int) string {
	if to < 0 || to >= p.n || to == p.me {
		return " 1"
	}
	if p.acked[to] == p.had {
		return " 0"
	}
	letter, told := "I", newPlain()
	for number := p.acked[to] + 1; number <= p.had; number++ {
		delta, found := p.deltas[number]
		if !found || number <= p.had-api.MaxDeltas {
			letter = "F"
		}
		told = joinPlain(told, delta)
	}
	if letter == "F" {
		told = p.held
	}
	return fmt.Sprintf("%s%d%d%02d%s 0", letter, p.me, to, p.had, told.text())
}

// ack takes an answer by P12's words.
func (p *paper) ack(text string) string {
	parts := answerForm.FindStringSubmatch(text)
	if parts == nil {
		return " 5"
	}
	me := fmt.Sprint(p.me)
	if parts[2] != me || parts[1] == me || parts[1] >= fmt.Sprint(p.n) {
		return " 6"
	}
	number, _ := strconv.Atoi(parts[3])
	if number > p.had {
		return " 9"
	}
	from := parts[1][0] - '0'
	p.acked[from] = max(p.acked[from], number)
	return " 0"
}

// step makes one call on the replica and on the paper alike.
func step(t *testing.T, g *rand.Rand, x *carts.Replica, p *paper) {
	t.Helper()
	cart, item, value := g.Intn(2), g.Intn(2), g.Intn(199)-99
	at := "abc"[cart:cart+1] + "ABCD"[item:item+1]
	token := p.digits()
	if g.Intn(3) == 0 {
		token = fmt.Sprintf("%03d", g.Intn(1000))[3-p.n:]
	}
	switch g.Intn(9) {
	case 0, 1, 2, 3:
		want(t, "Add", answer(x.Add(token, cart, item, value)), p.event(token, "", at, value))
	case 4, 5:
		value = g.Intn(100)
		want(t, "Set", answer(x.Set(token, cart, item, value)), p.event(token, at, at, value))
	case 6:
		want(t, "Remove", answer(x.Remove(token, cart, item)), p.event(token, at, "", 0))
	case 7:
		want(t, "Clear", answer(x.Clear(token, cart)), p.event(token, at[:1], "", 0))
	case 8:
		x.Compact()
		p.compact()
	}
	alike(t, x, p)
}

// alike compares all that can be asked of a replica and its paper.
func alike(t *testing.T, x *carts.Replica, p *paper) {
	t.Helper()
	wantState(t, x, p.state())
	want(t, "Log", x.Log(), p.log())
	for cart, letter := range []string{"a", "b", "c"} {
		want(t, "Read", answer3(x.Read(p.digits(), cart)), p.read(letter)+" "+p.digits()+" 0")
	}
	for to := -1; to <= api.MaxReplicas; to++ {
		want(t, fmt.Sprintf("Ship(%d)", to), answer(x.Ship(to)), p.ship(to))
	}
}

// oneOf picks a text, the late ones more often.
func oneOf(g *rand.Rand, texts []string) string {
	return texts[len(texts)-1-g.Intn(1+len(texts)/3)]
}

// play lets a cluster and its papers make events, ship messages, which get
// lost, come late, twice or to the wrong one, as their answers do, and open
// their logs again.
func play(t *testing.T, g *rand.Rand, n, calls int) ([]*carts.Replica, []*paper) {
	t.Helper()
	xs := cluster(t, n)
	var ps []*paper
	for i := range xs {
		ps = append(ps, newPaper(i, n))
	}
	var messages, answers []string
	for i := 0; i < calls; i++ {
		at := g.Intn(n)
		step(t, g, xs[at], ps[at])
		if message, e := xs[at].Ship(g.Intn(n)); e == api.OK && message != "" {
			messages = append(messages, message)
		}
		if len(messages) > 0 {
			answers = append(answers, carry(t, g, xs, ps, oneOf(g, messages)))
		}
		if len(answers) > 0 && g.Intn(3) > 0 {
			carryBack(t, g, xs, ps, oneOf(g, answers))
		}
		if g.Intn(8) == 0 {
			ps[at] = openPaper(at, n, xs[at].Log())
			xs[at] = open(t, at, n, xs[at].Log())
			alike(t, xs[at], ps[at])
		}
	}
	return xs, ps
}

// carry brings a message to where it goes, and at times to another replica
// too, and tells its answer.
func carry(t *testing.T, g *rand.Rand, xs []*carts.Replica, ps []*paper, message string) string {
	t.Helper()
	goals := []int{int(message[2] - '0')}
	if g.Intn(20) == 0 {
		goals = append(goals, g.Intn(len(xs)))
	}
	var told string
	for i, to := range goals {
		text, e := xs[to].Take(message)
		want(t, "Take of "+message, answer(text, e), ps[to].take(message))
		alike(t, xs[to], ps[to])
		if i == 0 {
			want(t, "Take of "+message, answer("", e), " 0")
			told = text
		}
	}
	return told
}

// carryBack brings an answer to where it goes, and at times to another replica.
func carryBack(t *testing.T, g *rand.Rand, xs []*carts.Replica, ps []*paper, told string) {
	t.Helper()
	to := int(told[2] - '0')
	if g.Intn(20) == 0 {
		to = g.Intn(len(xs))
	}
	want(t, "Acked of "+told, answer("", xs[to].Acked(told)), ps[to].ack(told))
	alike(t, xs[to], ps[to])
}

// P4 to P12: replicas that make events, ship and take messages, and are opened
// again do what the document's words do on paper; when each has told each
// other, all hold the same, and when that was answered, none has more to tell.
func TestAsOnPaper(t *testing.T) {
	g := rand.New(rand.NewSource(2))
	for round := 0; round < 400; round++ {
		n := 1 + g.Intn(3)
		xs, ps := play(t, g, n, 60)
		tellAll(t, g, xs, ps)
		for _, x := range xs {
			want(t, "State in the end", x.State(), xs[0].State())
		}
		tellAll(t, g, xs, ps)
		for i, x := range xs {
			for to := 0; to < n; to++ {
				if to != i {
					want(t, "Ship in the end", answer(x.Ship(to)), " 0")
				}
			}
		}
	}
}

// tellAll lets each replica tell each other what is not acknowledged.
func tellAll(t *testing.T, g *rand.Rand, xs []*carts.Replica, ps []*paper) {
	t.Helper()
	for _, x := range xs {
		for to := range xs {
			message, e := x.Ship(to)
			if e != api.OK || message == "" {
				continue
			}
			told := carry(t, g, xs, ps, message)
			from := int(told[2] - '0')
			want(t, "Acked of "+told, answer("", xs[from].Acked(told)), ps[from].ack(told))
		}
	}
}

// P9: every beginning of a log opens, with the frames that are whole in it.
func TestEveryCut(t *testing.T) {
	g := rand.New(rand.NewSource(6))
	for round := 0; round < 30; round++ {
		n := 1 + g.Intn(3)
		xs, ps := play(t, g, n, 20)
		log := xs[0].Log()
		for end := 0; end <= len(log); end++ {
			whole := ""
			for _, frame := range ps[0].frames {
				if len(whole)+len(frame) > end {
					break
				}
				whole += frame
			}
			want(t, "Log of a beginning", open(t, 0, n, log[:end]).Log(), whole)
		}
	}
}

// wrong makes a small change to a log: a byte, a frame, or its end.
func wrong(g *rand.Rand, frames []string) string {
	list := append([]string{}, frames...)
	if len(list) == 0 {
		list = []string{""}
	}
	i, j := g.Intn(len(list)), g.Intn(len(list))
	letters := "001122349;abcABD+-SDx"
	switch g.Intn(7) {
	case 0:
		list[i], list[j] = list[j], list[i]
	case 1:
		list[i] += list[j]
	case 2:
		list[i] = ""
	case 3:
		list[i] = framed(letters[g.Intn(len(letters)):])
	case 4:
		if len(list[i]) > 3 {
			list[i] = framed(list[i][3:] + list[j][len(list[j])-7*g.Intn(2):])
		}
	case 5:
		list = append(list, "0040120"[:g.Intn(8)])
	}
	log := strings.Join(list, "")
	if log != "" && g.Intn(2) == 0 {
		log = swapByte(g, log, letters)
	}
	return log
}

func swapByte(g *rand.Rand, text, letters string) string {
	at := g.Intn(len(text))
	return text[:at] + letters[g.Intn(len(letters)):][:1] + text[at+1:]
}

// P9: logs that were changed are taken or refused as on paper, and what was
// opened goes on as on paper.
func TestOpenOfChangedLogs(t *testing.T) {
	g := rand.New(rand.NewSource(7))
	taken, refused := 0, 0
	for round := 0; round < 1500; round++ {
		n := 1 + g.Intn(3)
		_, ps := play(t, g, n, 2+g.Intn(8))
		for i := 0; i < 20; i++ {
			log := wrong(g, ps[0].frames)
			n := 1 + g.Intn(3)
			p := openPaper(0, n, log)
			x, e := carts.Open(0, n, log)
			if (p == nil) != (e == api.ErrLog) || (x == nil) != (e != api.OK) {
				t.Fatalf("Open(0, %d, %q): %d", n, log, e)
			}
			if p == nil {
				refused++
				continue
			}
			taken++
			alike(t, x, p)
			step(t, g, x, p)
			x.Compact()
			p.compact()
			alike(t, x, p)
		}
	}
	if taken < 3000 || refused < 3000 {
		t.Errorf("%d taken, %d refused: too few of one kind", taken, refused)
	}
}

// forged makes a message of few dots and entries, so that holes, clashes and
// nothing new are all often there; at times it is changed in a byte.
func forged(g *rand.Rand) string {
	q := newPlain()
	for i := g.Intn(5); i > 0; i-- {
		dot := fmt.Sprintf("%d%d", g.Intn(3)*g.Intn(2), 1+g.Intn(3))
		if !q.dots[dot] && g.Intn(2) == 0 {
			q.entries[fmt.Sprintf("a%c%s+0%d", 'A'+g.Intn(8)/7, dot, g.Intn(8)/7)] = true
		}
		q.dots[dot] = true
	}
	message := fmt.Sprintf("%c%d%d%02d%s", "IF"[g.Intn(2)], g.Intn(3), g.Intn(8)/7, g.Intn(100), q.text())
	if g.Intn(8) == 0 {
		message = swapByte(g, message, "001122349;abcABD+-IFx")
	}
	return message
}

// P10: messages that no replica wrote are taken or refused as on paper.
func TestTakeOfForgedMessages(t *testing.T) {
	g := rand.New(rand.NewSource(8))
	answers := map[string]int{}
	for round := 0; round < 4000; round++ {
		n := 1 + g.Intn(3)
		x, p := begin(t, 0, n), newPaper(0, n)
		for i := 0; i < 12; i++ {
			message := forged(g)
			had := p.had
			wanted := p.take(message)
			want(t, "Take of "+message, answer(x.Take(message)), wanted)
			alike(t, x, p)
			answers[fmt.Sprint(wanted[len(wanted)-1:], " ", p.had-had)]++
			if g.Intn(6) == 0 {
				step(t, g, x, p)
			}
		}
		x.Compact()
		p.compact()
		alike(t, x, p)
	}
	for _, kind := range []string{"0 0", "0 1", "5 0", "6 0", "7 0", "8 0"} {
		if answers[kind] < 300 {
			t.Errorf("%d answers of the kind %q (error, deltas) are too few: %v", answers[kind], kind, answers)
		}
	}
}

// forgedAnswer makes an answer of which each part is often right and often
// wrong; at times it is changed in a byte.
func forgedAnswer(g *rand.Rand, p *paper) string {
	text := fmt.Sprintf("A%d%d%02d", g.Intn(3), g.Intn(8)/7, max(0, p.had-5+g.Intn(8)))
	if g.Intn(6) == 0 {
		text = swapByte(g, text, "0123459ABFIx;")
	}
	return text
}

// P11, P12: answers that no replica wrote are taken or refused as on paper,
// and what is shipped behind them is as on paper, behind clients' calls, forged
// messages and Open too.
func TestAckedOfForgedAnswers(t *testing.T) {
	g := rand.New(rand.NewSource(9))
	answers, letters := map[string]int{}, map[string]int{}
	for round := 0; round < 1500; round++ {
		n := 2 + g.Intn(2)
		x, p := begin(t, 0, n), newPaper(0, n)
		for i := 0; i < 30; i++ {
			switch g.Intn(12) {
			case 0, 1, 2, 3:
				step(t, g, x, p)
			case 4, 5:
				message := forged(g)
				want(t, "Take of "+message, answer(x.Take(message)), p.take(message))
			case 6:
				if g.Intn(4) == 0 {
					p = openPaper(0, n, x.Log())
					x = open(t, 0, n, x.Log())
				}
			default:
				text := forgedAnswer(g, p)
				wanted := p.ack(text)
				want(t, "Acked of "+text, answer("", x.Acked(text)), wanted)
				answers[wanted]++
			}
			alike(t, x, p)
			letters[p.ship(1)[:1]]++
		}
	}
	for _, kind := range []string{" 0", " 5", " 6", " 9"} {
		if answers[kind] < 500 {
			t.Errorf("%d answers of the kind %q are too few: %v", answers[kind], kind, answers)
		}
	}
	for _, letter := range []string{" ", "I", "F"} {
		if letters[letter] < 1000 {
			t.Errorf("%d messages of the kind %q are too few: %v", letters[letter], letter, letters)
		}
	}
}
