package tests

import (
	"fmt"
	"regexp"
	"strconv"
	"strings"
	"testing"

	"loop.example/kilnpass/impl"
)

// decimal is the form of a number of a session.
const decimal = `(0|[1-9][0-9]{0,3})`

// lineForm is a form of texts in which N stands for a number.
func lineForm(form string) *regexp.Regexp {
	return regexp.MustCompile("(?s)^" + strings.ReplaceAll(form, "N", decimal) + "$")
}

// wantForms are the forms of the lines of a session.
func wantForms() []*regexp.Regexp {
	forms := []*regexp.Regexp{}
	for _, form := range []string{
		`(thing) N (.+)`, `(pieces) N`, `(shared) N N`, `(give) N N`, `(fetch) N N`, `(lie) N`, `(tick)`, `(bring) N`, `(double) N`,
		`(lose) N`, `(fall) N`, `(rise) N`, `(calm) N`, `(done)`, `(lies)`, `(differ) N N`,
	} {
		forms = append(forms, lineForm(form))
	}
	return forms
}

// wantLines are the lines of a session.
func wantLines(text string) []string {
	lines := strings.Split(text, "\n")
	if last := len(lines) - 1; lines[last] == "" {
		lines = lines[:last]
	}
	return lines
}

// wantPlay is a second writing of a session, that reads its lines by their forms.
type wantPlay struct {
	forms  []*regexp.Regexp
	times  *regexp.Regexp
	things map[int]string
	stores []impl.Store
	worlds []impl.World // one at most
}

func newWantPlay() *wantPlay {
	p := &wantPlay{forms: wantForms(), times: lineForm(`\* N (.*)`), things: map[int]string{}}
	for range 3 {
		p.stores = append(p.stores, impl.Store{Width: 8, Room: 6000})
	}
	return p
}

func wantSession(text string) string {
	lines := wantLines(text)
	if len(text) > 20000 || len(lines) > 400 {
		return "too long\n"
	}
	p := newWantPlay()
	out := ""
	for _, line := range lines {
		out += p.answer(line) + "\n"
	}
	return out
}

// answer is the answer to a line.
func (p *wantPlay) answer(line string) string {
	for _, form := range p.forms {
		parts := form.FindStringSubmatch(line)
		if parts == nil {
			continue
		}
		n := [2]int{}
		for i, part := range parts[2:] {
			n[i], _ = strconv.Atoi(part)
		}
		if parts[1] == "thing" {
			return p.told(n[0], parts[3])
		}
		if answer := p.ofThings(parts[1], n[0], n[1]); answer != "" {
			return answer
		}
		if answer := p.ofWorld(parts[1], n[0]); answer != "" {
			return answer
		}
	}
	return "bad"
}

func (p *wantPlay) told(n int, text string) string {
	if n > 9 {
		return "bad"
	}
	if parts := p.times.FindStringSubmatch(text); parts != nil {
		if times, _ := strconv.Atoi(parts[1]); times <= 300 {
			text = strings.Repeat(parts[2], times)
		}
	}
	if len(text) > 3000 {
		return "no"
	}
	p.things[n] = text
	return nameDigits(text)
}

func nameDigits(text string) string {
	return fmt.Sprintf("%x", impl.Name(text, 8))
}

// isThing says whether there are things with all of these numbers.
func (p *wantPlay) isThing(numbers ...int) bool {
	for _, n := range numbers {
		if _, there := p.things[n]; !there {
			return false
		}
	}
	return true
}

func isPeer(numbers ...int) bool {
	for _, n := range numbers {
		if n < 1 || n > 3 {
			return false
		}
	}
	return true
}

// store is the store of a peer.
func (p *wantPlay) store(n int) *impl.Store {
	if len(p.worlds) > 0 {
		return &p.worlds[0].Stores[n-1]
	}
	return &p.stores[n-1]
}

// ofThings answers lines for which there has to be no fetch; the empty text for others, and where something is not there.
func (p *wantPlay) ofThings(word string, a, b int) string {
	switch {
	case word == "pieces" && p.isThing(a):
		sizes := fmt.Sprint(sizesOf(impl.Pieces(p.things[a])))
		if sizes == "[]" {
			return "-"
		}
		return strings.Trim(sizes, "[]")
	case word == "shared" && p.isThing(a, b):
		return fmt.Sprint(impl.Shared(p.things[a], p.things[b]))
	case word == "give" && isPeer(a) && p.isThing(b):
		s, code := impl.Save(*p.store(a), p.things[b], 0)
		if code == 0 {
			*p.store(a) = s
		}
		return fmt.Sprint("code ", code)
	case word == "fetch" && p.isThing(a):
		f := impl.NewFetch(impl.Store{Width: 8, Room: b}, impl.Name(p.things[a], 8), 3)
		p.worlds = []impl.World{impl.NewWorld(f, []impl.Store{*p.store(1), *p.store(2), *p.store(3)})}
		return "ok"
	case word == "differ" && isPeer(a, b):
		talk := impl.Differ(storeSums(*p.store(a)), storeSums(*p.store(b)), 8)
		if talk.Code != 0 {
			return "no"
		}
		return fmt.Sprintf("notes %d only %d %d", talk.Notes, len(talk.OnlyA), len(talk.OnlyB))
	}
	return ""
}

// storeSums are the sums of what is in a store.
func storeSums(s impl.Store) []string {
	sums := []string{}
	for _, item := range s.Items {
		sums = append(sums, impl.Sum(item.Text, s.Width))
	}
	return sums
}

// ofWorld answers lines for which there has to be a fetch; the empty text for others, and where something is not there.
func (p *wantPlay) ofWorld(word string, a int) string {
	if len(p.worlds) == 0 {
		return ""
	}
	w := &p.worlds[0]
	kinds := map[string]int{"tick": impl.EvTick, "bring": impl.EvBring, "double": impl.EvDouble, "lose": impl.EvLose, "fall": impl.EvFall, "rise": impl.EvRise}
	ofPeer := word == "fall" || word == "rise" || word == "lie"
	switch {
	case ofPeer && !isPeer(a):
		return ""
	case kinds[word] != 0:
		*w = impl.Do(*w, impl.Event{Kind: kinds[word], A: a})
	case word == "lie":
		m := impl.Message{From: a, Sum: w.Fetch.Peers[a-1].Asked, Has: true, Text: "lie"}
		*w = impl.Do(*w, impl.Event{Kind: impl.EvSay, Message: m})
	case word == "calm" && a > 300:
		return "no"
	case word == "calm":
		*w = impl.Calm(*w, a)
	case word == "done":
		return wantEnd(w.Fetch)
	case word == "lies":
		return fmt.Sprint(w.Fetch.Peers[0].Lies, w.Fetch.Peers[1].Lies, w.Fetch.Peers[2].Lies, w.Wasted)
	default:
		return ""
	}
	return fmt.Sprint(len(w.Flight))
}

// wantEnd is the answer to `done`.
func wantEnd(f impl.Fetch) string {
	if text, ok := impl.FetchDone(f); ok {
		return fmt.Sprint("done ", len(text))
	}
	answer := fmt.Sprint("lacks ", len(impl.Lacks(f.Store, f.Name)))
	if f.Full {
		answer += " full"
	}
	return answer
}

// checkSession asks that a session answers as the second writing does; it gives the answers.
func checkSession(t *testing.T, text string) []string {
	t.Helper()
	lines, got, want := wantLines(text), wantLines(impl.Session(text)), wantLines(wantSession(text))
	if len(got) != len(want) {
		t.Fatalf("%.200q: %d answers, not %d", text, len(got), len(want))
	}
	for i := range got {
		if got[i] != want[i] {
			t.Fatalf("%.200q: line %d, %.60q: %.80q, not %.80q", text, i, lines[i], got[i], want[i])
		}
	}
	return got
}

// checkFirstLines asks that the answers to a session's first lines are the first answers to the whole, at every number of lines.
func checkFirstLines(t *testing.T, text string) {
	t.Helper()
	whole := impl.Session(text)
	first, answers := "", ""
	lines, all := wantLines(text), strings.SplitAfter(whole, "\n")
	for i := 0; i <= len(lines); i++ {
		if got := impl.Session(first); got != answers {
			t.Fatalf("%.200q: the first %d lines alone: %q, not %q", text, i, got, answers)
		}
		if i == len(lines) {
			break
		}
		// Without a newline behind it a line of no byte is none.
		if got := impl.Session(first + lines[i]); lines[i] != "" && got != answers+all[i] {
			t.Fatalf("%.200q: the first %d lines alone, without a newline: %q, not %q", text, i+1, got, answers+all[i])
		}
		first, answers = first+lines[i]+"\n", answers+all[i]
	}
	if answers != whole {
		t.Fatalf("%.200q: %d lines have other answers: %q", text, len(lines), whole)
	}
}

// answers asks that lines, told in this order in one session, have these answers: each is a line and its answer.
func answers(t *testing.T, lines [][2]string) {
	t.Helper()
	text := ""
	for _, line := range lines {
		text += line[0] + "\n"
	}
	got := checkSession(t, text)
	if len(got) != len(lines) {
		t.Fatalf("%.200q: %d answers to %d lines", text, len(got), len(lines))
	}
	for i, line := range lines {
		if got[i] != line[1] {
			t.Errorf("line %d, %.60q: %.80q, not %.80q", i, line[0], got[i], line[1])
		}
	}
	checkFirstLines(t, text)
}

// answered asks that lines have these answers, each line in a session of its own, behind the same ones.
func answered(t *testing.T, ahead string, lines [][2]string) {
	t.Helper()
	for _, line := range lines {
		got := checkSession(t, ahead+line[0]+"\n")
		if last := got[len(got)-1]; last != line[1] {
			t.Errorf("behind %.80q: %.60q: %.80q, not %.80q", ahead, line[0], last, line[1])
		}
	}
}

func TestSessionOfTheDocument(t *testing.T) {
	answers(t, [][2]string{
		{"thing 1 * 20 abcdefghij", "8e9d9d171c862548"},
		{"pieces 1", "64 64 64 8"},
		{"give 1 1", "code 0"},
		{"fetch 1 4000", "ok"},
		{"calm 5", "0"},
		{"done", "done 200"},
		{"lies", "0 0 0 0"},
	})
}

// TestSessionOfManyLines has every line of the chapter's table ahead of a fetch and behind it.
func TestSessionOfManyLines(t *testing.T) {
	long := drawn(3, 400, lowLetters)
	size := fmt.Sprint("done ", len(long))
	answers(t, [][2]string{
		{"tick", "bad"}, {"bring 0", "bad"}, {"double 0", "bad"}, {"lose 0", "bad"}, {"fall 1", "bad"}, {"rise 1", "bad"},
		{"calm 1", "bad"}, {"done", "bad"}, {"lies", "bad"}, {"lie 1", "bad"}, {"differ 1 2", "notes 1 only 0 0"},
		{"thing 0 " + long, nameDigits(long)},
		{"thing 1 a small one", nameDigits("a small one")},
		{"thing 2 * 7 a small one", nameDigits(strings.Repeat("a small one", 7))},
		{"thing 3 " + long[8:], nameDigits(long[8:])},
		{"pieces 1", "11"},
		{"shared 1 2", "0"},
		{"shared 0 0", "400"},
		{"shared 3 0", fmt.Sprint(impl.Shared(long[8:], long))},
		{"give 1 0", "code 0"}, {"give 2 1", "code 0"}, {"give 2 2", "code 0"}, {"give 3 3", "code 0"}, {"give 3 1", "code 0"},
		{"differ 2 3", fmt.Sprintf("notes 5 only %d %d", len(partsOf(strings.Repeat("a small one", 7), 8)), len(partsOf(long[8:], 8)))},
		{"fetch 0 4000", "ok"},
		{"done", "lacks 1"}, {"lies", "0 0 0 0"},
		{"tick", "1"}, {"double 0", "2"}, {"lose 1", "1"}, {"fall 2", "1"},
		{"lie 1", "2"}, {"bring 1", "1"}, {"lies", "1 0 0 1"},
		{"bring 0", "1"}, {"bring 0", "0"}, {"done", "lacks 1"},
		{"calm 3", "0"}, {"rise 2", "0"}, {"calm 60", "0"}, {"done", size}, {"lies", "1 0 0 1"},
		{"thing 4 another", nameDigits("another")},
		{"pieces 4", "7"}, {"shared 4 4", "7"}, {"give 2 4", "code 0"},
		{"differ 2 2", "notes 1 only 0 0"},
		{"fetch 4 100", "ok"},
		{"tick", "1"}, {"fall 2", "1"}, {"calm 9", "0"}, {"done", "lacks 1"}, {"rise 2", "0"}, {"calm 9", "0"}, {"done", "done 7"},
		{"lies", "0 0 0 0"},
	})
}

// TestSessionPieceByPiece follows a fetch from several peers, event by event.
func TestSessionPieceByPiece(t *testing.T) {
	text := block(1) + block(2) + block(3) + "end"
	answers(t, [][2]string{
		{"thing 5 " + text, nameDigits(text)},
		{"pieces 5", "8 8 8 3"},
		{"give 1 5", "code 0"}, {"give 3 5", "code 0"},
		{"fetch 5 200", "ok"},
		{"tick", "1"}, {"bring 0", "1"}, {"bring 0", "0"}, {"done", "lacks 4"},
		// Peer 2 has no piece, and says so; the others have theirs.
		{"tick", "3"}, {"bring 0", "3"}, {"bring 0", "3"}, {"bring 0", "3"},
		{"bring 0", "2"}, {"done", "lacks 4"}, {"bring 1", "1"}, {"done", "lacks 3"}, {"bring 0", "0"}, {"done", "lacks 2"},
		{"tick", "2"}, {"fall 3", "2"}, {"calm 1", "0"}, {"done", "lacks 1"},
		{"lies", "0 0 0 0"},
		{"calm 1", "0"}, {"calm 9", "0"}, {"done", "done 27"},
	})
}

// manySessions are sessions of all kinds, of few lines and of many.
func manySessions() []string {
	texts := []string{"", "\n", "\n\n", "x", "done\ndone", "thing 1 \n", "thing 1 x\n\npieces 1\n"}
	for seed := range 40 {
		texts = append(texts, drawnSession(seed, 10+seed*2))
	}
	return texts
}

// TestFirstLinesOfSessions: what stands behind a line is nothing to its answer.
func TestFirstLinesOfSessions(t *testing.T) {
	for _, text := range manySessions() {
		checkSession(t, text)
		checkFirstLines(t, text)
	}
}

// TestOtherLinesBehind: two sessions that begin alike are answered alike, as far as they do.
func TestOtherLinesBehind(t *testing.T) {
	texts := manySessions()
	for i, a := range texts {
		b := a + texts[(i+1)%len(texts)]
		if a != "" && !strings.HasSuffix(a, "\n") {
			b = a + "\n" + b[len(a):]
		}
		if got, whole := impl.Session(a), impl.Session(b); whole != "too long\n" && !strings.HasPrefix(whole, got) {
			t.Errorf("%.200q: %.200q, and with lines behind them %.200q", a, got, whole)
		}
	}
}
