package tests

import (
	"fmt"
	"regexp"
	"strconv"
	"strings"
	"testing"

	"loop.example/kilnpass/impl"
)

// drawer gives numbers that a seed tells, one by one.
type drawer struct {
	bytes string
	next  int
}

func newDrawer(seed int) *drawer {
	return &drawer{bytes: drawn(seed, 5000, allBytes())}
}

// below is a number below n.
func (d *drawer) below(n int) int {
	at := d.next % (len(d.bytes) - 1)
	d.next += 2
	return (int(d.bytes[at])*256 + int(d.bytes[at+1])) % n
}

// one is one of several texts.
func (d *drawer) one(texts ...string) string {
	return texts[d.below(len(texts))]
}

// number is a number that stands for a thing or a peer, now and then one that does not, or none at all.
func (d *drawer) number(from, to int) string {
	if d.below(30) == 0 {
		return d.one("0", "4", "9", "10", "01", "00", "9999", "10000", "-1", "+1", "x", "", "1 ", "300", "301")
	}
	return strconv.Itoa(from + d.below(to-from+1))
}

// text is what a thing is told to be.
func (d *drawer) text() string {
	plain := drawn(d.below(12), 1+d.below(300), lowLetters[:20])
	switch d.below(8) {
	case 0:
		return d.one("lie", " ", "* ", "* 0 ", "* 3", "* 301 z", "* 300 0123456789", "* 300 0123456789a", "* 03 ab", " * 3 ab", "* 3  ab ", wholeClashes()[0][0], wholeClashes()[0][1])
	case 1, 2:
		return "* " + strconv.Itoa(d.below(30)) + " " + plain[:1+len(plain)/9]
	case 3:
		return drawn(d.below(6), 1500+d.below(3)*200, lowLetters)
	}
	return plain
}

// line is a line of a session.
func (d *drawer) line() string {
	switch d.below(24) {
	case 0, 1:
		return "thing " + d.number(0, 5) + " " + d.text()
	case 2:
		return "pieces " + d.number(0, 5)
	case 3:
		return "shared " + d.number(0, 5) + " " + d.number(0, 5)
	case 4, 5:
		return "give " + d.number(1, 3) + " " + d.number(0, 5)
	case 6:
		return "fetch " + d.number(0, 5) + " " + d.one("0", "20", "60", "150", "500", "500", "4000", "4000", "9999")
	case 7, 8:
		return "lie " + d.number(1, 3)
	case 9, 10, 11:
		return "tick"
	case 12, 13, 14, 15:
		return "bring " + d.one("0", "0", "1", "2", "7", "9999")
	case 16:
		return d.one("double ", "lose ") + d.number(0, 3)
	case 17:
		return d.one("fall ", "rise ") + d.number(1, 3)
	case 18:
		return "calm " + d.one("0", "1", "2", "5", "20", "300", "301")
	case 19, 20:
		return "done"
	case 21:
		return "lies"
	case 22:
		return "differ " + d.number(1, 3) + " " + d.number(1, 3)
	}
	return d.spoilt()
}

// spoilt is a line that is nearly one.
func (d *drawer) spoilt() string {
	line := d.one("tick", "done", "lies", "thing 1 x", "pieces 1", "shared 1 1", "give 1 1", "fetch 1 1", "lie 1", "bring 0", "double 0", "lose 0", "fall 1", "rise 1", "calm 1", "differ 1 2")
	at := d.below(len(line) + 1)
	switch d.below(4) {
	case 0:
		return line[:at]
	case 1:
		return line[:at] + " " + line[at:]
	case 2:
		return line[:at] + string(allBytes()[11+d.below(245)]) + line[at:]
	}
	return line + d.one(" ", " 1", "  ", "0", "\r", "\t")
}

// drawnSession is a session of so many lines; it begins with things, and with peers that have some of them.
func drawnSession(seed, lines int) string {
	d := newDrawer(seed)
	text := ""
	for i := range 6 {
		text += fmt.Sprintf("thing %d %s\n", i, d.text())
		text += fmt.Sprintf("give %d %d\n", 1+d.below(3), d.below(i+1))
	}
	for i := 12; i < lines; i++ {
		text += d.line() + "\n"
	}
	return text
}

// wantedAnswers are forms of lines and their answers, ahead of the first fetch or behind it, that drawn sessions have to come to.
func wantedAnswers() []string {
	forms := []string{
		`thing .* -> no`, `pieces . -> -`, `give . . -> code 2`, `give . . -> code 3`, `behind fetch . \d+ -> ok`, `calm 301 -> no`,
		`done -> done \d+`, `done -> lacks [1-9]\d*`, `done -> lacks \d+ full`, `lies -> 0 0 0 0`, `lies -> [1-3] . . [1-9]`,
		`lie . -> [1-9]\d*`, `differ . . -> notes [2-9] only [1-9]\d* [1-9]\d*`,
	}
	for _, place := range []string{"ahead", "behind"} {
		for _, form := range []string{`thing .* -> [0-9a-f]{16}`, `pieces . -> [\d ]+`, `shared . . -> [1-9]\d*`, `give . . -> code 0`, `differ . . -> notes 1 only 0 0`} {
			forms = append(forms, place+" "+form)
		}
	}
	for _, word := range []string{"lie", "tick", "bring", "double", "lose", "fall", "rise", "calm"} {
		forms = append(forms, "ahead "+word+".* -> bad", "behind "+word+`.* -> \d+`)
	}
	return append(forms, "ahead done -> bad", "ahead lies -> bad")
}

// TestManySessions holds drawn sessions against the second writing, and asks that they come to all that there is.
func TestManySessions(t *testing.T) {
	var all strings.Builder
	for seed := range 400 {
		text := drawnSession(1000+seed, 40+seed%200)
		lines, place := wantLines(text), "ahead"
		for i, answer := range checkSession(t, text) {
			all.WriteString(place + " " + lines[i] + " -> " + answer + "\n")
			if answer == "ok" {
				place = "behind"
			}
		}
	}
	for _, form := range wantedAnswers() {
		if !regexp.MustCompile("(?m)" + form + "$").MatchString(all.String()) {
			t.Errorf("no line has an answer of the form %q", form)
		}
	}
}

// TestSessionsOfAnyBytes: every text is answered, a line for each of its own.
func TestSessionsOfAnyBytes(t *testing.T) {
	alphabets := []string{allBytes(), " \n", "0123456789 \n", "tick bring\n", "* thing 0123\n", "\n\r\t \x00\xff"}
	for seed := range 600 {
		text := drawn(seed, seed, alphabets[seed%len(alphabets)])
		checkSession(t, text)
	}
	words := []string{"thing", "pieces", "shared", "give", "fetch", "lie", "tick", "bring", "double", "lose", "fall", "rise", "calm", "done", "lies", "differ", "", "0", "1", "2", "9", "10", "300", "*", "x", "\xff"}
	for seed := range 300 {
		d := newDrawer(seed)
		text := "thing 1 x\nthing 2 * 9 abcdefgh\n"
		for range 300 {
			text += d.one(words...) + d.one(" ", " ", "\n", "\n", "  ", "\n\n")
		}
		checkSession(t, text)
	}
	for b := range 256 {
		for _, line := range []string{"", "tick", "thing 1 ", "thing 1", "pieces 0", "pieces "} {
			text := "thing 0 x\nfetch 0 1\n" + line + string(allBytes()[b]) + "\n"
			checkSession(t, text)
		}
	}
}

func TestSessionsLeaveArgumentsAlone(t *testing.T) {
	for _, text := range append(manySessions(), strings.Repeat("x", impl.MaxSession+1), strings.Repeat("\n", impl.MaxLines+1)) {
		w := watch(text)
		got := impl.Session(w.text)
		if w.changed() {
			t.Errorf("%.100q: the argument was written into", text)
		}
		checkFresh(t, "a session", got, w.text)
		if got != "too long\n" {
			checkFresh(t, "a session, once more", impl.Session(w.text), got)
		}
	}
}

// TestSessionsAnswerTheSameAtEachCall: whatever order a map is gone through in, and whatever was called besides.
func TestSessionsAnswerTheSameAtEachCall(t *testing.T) {
	texts, want := manySessions(), []string{}
	for _, text := range texts {
		want = append(want, impl.Session(text))
	}
	for range 20 {
		for i, text := range texts {
			if got := impl.Session(text); got != want[i] {
				t.Fatalf("%.200q: %.200q, not %.200q", text, got, want[i])
			}
		}
	}
}

// TestSessionsAtTheSameTime: no session has anything of another one.
func TestSessionsAtTheSameTime(t *testing.T) {
	texts, ended := manySessions(), make(chan string)
	for _, text := range texts {
		go func() {
			if impl.Session(text) == wantSession(text) {
				ended <- ""
			} else {
				ended <- text
			}
		}()
	}
	for range texts {
		if text := <-ended; text != "" {
			t.Errorf("%.200q has another answer beside other sessions", text)
		}
	}
}

// TestGreatSessionsEndSoon: as many lines as there may be, each of as many rounds as there may be, with much that is lacked.
func TestGreatSessionsEndSoon(t *testing.T) {
	great := greatThing()[:1900]
	head := "thing 1 " + great + "\ngive 1 1\nfetch 1 9999\ncalm 4\nfall 1\n"
	text := head + strings.Repeat("calm 300\n", impl.MaxLines-7) + "done\nlies\n"
	endsSoon(t, "many rounds", func() {
		got := wantLines(impl.Session(text))
		lacks := fmt.Sprint("lacks ", len(impl.Pieces(great))-3)
		if len(got) != impl.MaxLines || got[1] != "code 0" || got[impl.MaxLines-2] != lacks || got[impl.MaxLines-1] != "0 0 0 0" {
			t.Errorf("%d answers: %.200q", len(got), got)
		}
	})
}
