package tests

import (
	"fmt"
	"math"
	"slices"
	"strconv"
	"strings"
	"testing"

	"loop.example/kilnpass/impl"
)

// waiting is a fetch of this name whose first peer waits for this sum; the second one waits for another.
func waiting(t *testing.T, s impl.Store, name, sum string) impl.Fetch {
	t.Helper()
	f := checkNew(t, s, name, 2)
	f.Now = 60
	f.Peers[0] = impl.Peer{Lies: 1, Wait: 3, Last: 58, Asked: sum}
	f.Peers[1] = impl.Peer{Wait: 2, Last: 57, Asked: strings.Repeat("\x07", s.Width)}
	if !impl.ValidFetch(f) || !wantFetch(f) {
		t.Fatalf("%s must be valid", shortFetch(f))
	}
	return f
}

// heard asks that the first peer, as waiting has it, waits no more and has this many lies, and that the second one waits.
func heard(t *testing.T, what string, f, got impl.Fetch, lies int) {
	t.Helper()
	want := impl.Peer{Lies: lies, Last: 58, Nots: got.Peers[0].Nots}
	if !samePeer(got.Peers[0], want) || !samePeer(got.Peers[1], f.Peers[1]) || got.Now != f.Now {
		t.Errorf("%s: %s", what, shortFetch(got))
	}
}

// isLie asks that this answer is one, and changes nothing else.
func isLie(t *testing.T, what string, f impl.Fetch, text string) {
	t.Helper()
	got := checkTake(t, f, impl.Message{From: 1, Sum: f.Peers[0].Asked, Has: true, Text: text})
	heard(t, what, f, got, 2)
	if !sameStore(got.Store, f.Store) || got.Full != f.Full || len(got.Peers[0].Nots) != 0 {
		t.Errorf("%s: %s", what, shortFetch(got))
	}
}

// isPut asks that this answer is none, and is in the store.
func isPut(t *testing.T, what string, f impl.Fetch, text string) impl.Fetch {
	t.Helper()
	got := checkTake(t, f, impl.Message{From: 1, Sum: f.Peers[0].Asked, Has: true, Text: text})
	heard(t, what, f, got, 1)
	at := placeOf(got.Store, f.Peers[0].Asked)
	if at < 0 || got.Store.Items[at] != (impl.Item{Text: text, Used: f.Now}) || got.Full != f.Full || len(got.Peers[0].Nots) != 0 {
		t.Errorf("%s: %s", what, shortFetch(got))
	}
	return got
}

func TestLieByAnotherSum(t *testing.T) {
	for width := 1; width <= impl.MaxWidth; width++ {
		s := storeOf(t, width, 1000, "here before")
		name := strings.Repeat("n", width)
		texts := different(t, 40, 10, width)
		f := waiting(t, s, name, impl.Sum(texts[0], width))
		isPut(t, "the text itself", f, texts[0])
		for _, text := range append(texts[1:], "", "lie", texts[0]+"X", texts[0][1:], strings.Repeat("x", impl.MaxBlob+1)) {
			if impl.Sum(text, width) != f.Peers[0].Asked {
				isLie(t, "another text", f, text)
			}
		}
		// What the store has, or is asked for elsewhere, is a lie here even so.
		if impl.Sum("here before", width) != f.Peers[0].Asked {
			isLie(t, "a text that is there", f, "here before")
		}
		list := waiting(t, s, name, name)
		if impl.Sum(texts[1], width) != name && impl.Sum("size 0\n", width) != name {
			isLie(t, "another text for the list", list, texts[1])
			isLie(t, "another list", list, "size 0\n")
		}
	}
}

// TestLieByNoList: under the name only a list is taken; under any other sum any text is.
func TestLieByNoList(t *testing.T) {
	for width := 1; width <= impl.MaxWidth; width++ {
		s := impl.Store{Width: width, Room: 30000}
		form := wantForm(wantList(drawn(2, 200, lowLetters), width))
		wide := wantForm(wantList(drawn(2, 200, lowLetters), width%impl.MaxWidth+1))
		other := strings.Repeat("o", width)
		for _, text := range []string{"lie", "\n", "size", "size 0", "size 1 \n", "size 3001\n", "size 01\n", form[:len(form)-1], form + "\n", " " + form, strings.ToUpper(form), wide} {
			if _, read := wantRead(text, width); read {
				t.Fatalf("width %d: %.20q must be no list", width, text)
			}
			sum := impl.Sum(text, width)
			isLie(t, "no list for the name", waiting(t, s, sum, sum), text)
			if sum != other {
				isPut(t, "no list for another sum", waiting(t, s, other, sum), text)
			}
		}
		many := impl.FormList(impl.List{Size: 3000, Sums: sumsOf(1, impl.MaxPieces, width)}, width)
		for _, text := range []string{"size 0\n", "size 3000\n", form, many, formOf(width, "any", "list", "at all")} {
			sum := impl.Sum(text, width)
			isPut(t, "a list for the name", waiting(t, s, sum, sum), text)
			if sum != other {
				isPut(t, "a list for another sum", waiting(t, s, other, sum), text)
			}
		}
		// A list of one piece more than may be, which has the sum.
		over := many + strings.Repeat("0f", width) + "\n"
		isLie(t, "too many sums", waiting(t, s, impl.Sum(over, width), impl.Sum(over, width)), over)
	}
}

// TestLieByCodesOfPut: the text has the sum, and Put takes it even so not.
func TestLieByCodesOfPut(t *testing.T) {
	name := "the name"
	long := drawn(1, impl.MaxBlob+1, lowLetters)
	s := impl.Store{Width: 8, Room: 30000}
	isLie(t, "code 1, the empty text", waiting(t, s, name, impl.Sum("", 8)), "")
	isLie(t, "code 1, a text too long", waiting(t, s, name, impl.Sum(long, 8)), long)
	isLie(t, "code 1, a text much too long", waiting(t, s, name, impl.Sum(long+long, 8)), long+long)
	isPut(t, "a text of MaxBlob bytes", waiting(t, s, name, impl.Sum(long[1:], 8)), long[1:])
	isPut(t, "a text of one byte", waiting(t, s, name, impl.Sum("x", 8)), "x")
	// Too long comes ahead of no room: it is a lie, and nothing is Full.
	isLie(t, "codes 1 and 3", waiting(t, withRoom(s, 10), name, impl.Sum(long, 8)), long)
	isLie(t, "codes 1 and 3, the empty text", waiting(t, withRoom(s, 0), name, impl.Sum("", 8)), "")
	for _, pair := range wholeClashes() {
		for width := 1; width <= impl.MaxWidth; width++ {
			with := storeOf(t, width, 30, pair[0])
			other := strings.Repeat("\xee", width)
			isLie(t, "code 2", waiting(t, with, other, impl.Sum(pair[0], width)), pair[1])
			isLie(t, "code 2, and no room", waiting(t, withRoom(with, len(pair[0])), other, impl.Sum(pair[0], width)), pair[1])
			// The one that is there is none: it is Used now.
			isPut(t, "there already", waiting(t, with, other, impl.Sum(pair[0], width)), pair[0])
			isPut(t, "there already, and no room", waiting(t, withRoom(with, len(pair[0])), other, impl.Sum(pair[0], width)), pair[0])
		}
	}
}

// TestLieByListInPlaceOfAnother: under the name stands a text that is no list, so each list has code 2.
func TestLieByListInPlaceOfAnother(t *testing.T) {
	for width := 1; width <= 2; width++ {
		form := wantForm(wantList("a thing", width))
		name := impl.Sum(form, width)
		no := sameSum(t, form, width)
		s := storeOf(t, width, 1000, no)
		f := checkNew(t, s, name, 3)
		peers := somePeers(t, 3, width, form, "a thing")
		f, asked := fetchFrom(t, f, peers)
		notDone(t, "another text in its place", f)
		for i, p := range f.Peers {
			if p.Lies != impl.MaxLies || p.Wait != 0 || len(p.Nots) != 0 {
				t.Errorf("width %d: peer %d is %s", width, i+1, shortPeer(p))
			}
		}
		if asked != 3*impl.MaxLies {
			t.Errorf("width %d: %d are asked for", width, asked)
		}
		isLie(t, "no list, and the text that is there", waiting(t, s, name, name), no)
	}
}

func TestLiesAtMaxLies(t *testing.T) {
	f, sums := lackingSix(t, 2)
	for lies := 0; lies <= impl.MaxLies; lies++ {
		f.Peers[0] = impl.Peer{Lies: lies, Wait: 3, Last: 4, Asked: sums[0]}
		lied := checkTake(t, f, impl.Message{From: 1, Sum: sums[0], Has: true, Text: "lie"})
		if want := (impl.Peer{Lies: min(lies+1, 3), Last: 4}); !samePeer(lied.Peers[0], want) {
			t.Errorf("%d lies, and one: %s", lies, shortPeer(lied.Peers[0]))
		}
		if _, sent := checkTick(t, lied); slices.ContainsFunc(sent, func(m impl.Message) bool { return m.To == 1 }) != (lies < 2) {
			t.Errorf("%d lies, and one: %s", lies, shortMessages(sent...))
		}
		// Whoever lied too often, and waits, may tell the truth even so.
		honest := checkTake(t, f, impl.Message{From: 1, Sum: sums[0], Has: true, Text: "text zero"})
		if honest.Peers[0].Lies != lies || placeOf(honest.Store, sums[0]) < 0 {
			t.Errorf("%d lies, and the truth: %s", lies, shortPeer(honest.Peers[0]))
		}
		not := checkTake(t, f, impl.Message{From: 1, Sum: sums[0]})
		if not.Peers[0].Lies != lies || len(not.Peers[0].Nots) != 1 {
			t.Errorf("%d lies, and a not: %s", lies, shortPeer(not.Peers[0]))
		}
	}
}

// TestFullIsNoLie: with no room the store stays as it is, and the peer is believed.
func TestFullIsNoLie(t *testing.T) {
	for width := 1; width <= impl.MaxWidth; width++ {
		form := wantForm(wantList("some piece of a thing", width))
		name := impl.Sum(form, width)
		for _, c := range []struct {
			what string
			s    impl.Store
			text string
			full bool
		}{
			{"no room at all", impl.Store{Width: width}, form, true},
			{"one byte too few", impl.Store{Width: width, Room: len(form) - 1}, form, true},
			{"just the room", impl.Store{Width: width, Room: len(form)}, form, false},
			{"room that is given away", storeOf(t, width, len(form), "old text"), form, false},
			{"room that is pinned", withPins(storeOf(t, width, len(form)+7, "old text"), impl.Sum("old text", width)), form, true},
			{"just the room beside what is pinned", withPins(storeOf(t, width, len(form)+8, "old text"), impl.Sum("old text", width)), form, false},
			{"no room for a piece", storeOf(t, width, len(form)+20, form), "some piece of a thing", true},
			{"just the room for a piece", storeOf(t, width, len(form)+21, form), "some piece of a thing", false},
			{"room for a piece that is given away", storeOf(t, width, len(form)+21, form, "old text"), "some piece of a thing", false},
		} {
			f := waiting(t, c.s, name, impl.Sum(c.text, width))
			got := checkTake(t, f, impl.Message{From: 1, Sum: f.Peers[0].Asked, Has: true, Text: c.text})
			heard(t, c.what, f, got, 1)
			if got.Full != c.full || c.full != sameStore(got.Store, f.Store) || len(got.Peers[0].Nots) != 0 {
				t.Errorf("width %d, %s: %s", width, c.what, shortFetch(got))
			}
			if _, sent := checkTick(t, got); c.full && len(sent) != 0 {
				t.Errorf("width %d, %s: %s", width, c.what, shortMessages(sent...))
			}
			if !c.full {
				isPut(t, c.what, f, c.text)
			}
			f.Full = true
			got = checkTake(t, f, impl.Message{From: 1, Sum: f.Peers[0].Asked, Has: true, Text: c.text})
			if !got.Full || c.full != sameStore(got.Store, f.Store) {
				t.Errorf("width %d, %s, and full ahead of it: %s", width, c.what, shortFetch(got))
			}
		}
	}
}

// TestFullByItems meets MaxItems with what is needed, and has no room for one text more.
func TestFullByItems(t *testing.T) {
	texts := different(t, 3*374+1, 8, 8)
	s := impl.Store{Width: 8, Room: impl.MaxRoom}
	for i := range 3 {
		form := formOf(8, texts[i*374:i*374+374]...)
		s = withPins(withTexts(s, form), impl.Sum(form, 8))
	}
	last := formOf(8, texts[3*374:]...)
	s = withPins(withTexts(s, last), impl.Sum(last, 8))
	s = withTexts(s, texts[:impl.MaxItems-4]...)
	if len(s.Items) != impl.MaxItems || !impl.ValidStore(s) {
		t.Fatalf("%s", shortStore(s))
	}
	piece := texts[3*374]
	f := waiting(t, s, impl.Sum(last, 8), impl.Sum(piece, 8))
	got := checkTake(t, f, impl.Message{From: 1, Sum: impl.Sum(piece, 8), Has: true, Text: piece})
	if !got.Full || !sameStore(got.Store, s) || got.Peers[0].Lies != 1 {
		t.Errorf("full %v, %d items, %s", got.Full, len(got.Store.Items), shortPeer(got.Peers[0]))
	}
	f.Store = without(s, texts[5])
	got = checkTake(t, f, impl.Message{From: 1, Sum: impl.Sum(piece, 8), Has: true, Text: piece})
	if got.Full || len(got.Store.Items) != impl.MaxItems || placeOf(got.Store, impl.Sum(piece, 8)) < 0 {
		t.Errorf("room for one item: full %v, %d items", got.Full, len(got.Store.Items))
	}
}

// TestFetchGivesAwayWhatIsNotNeeded: what the fetch has got stays, whatever room it takes.
func TestFetchGivesAwayWhatIsNotNeeded(t *testing.T) {
	text := drawn(6, 400, lowLetters)
	for _, peers := range []int{1, 3} {
		for less := range 2 {
			parts := partsOf(text, 8)
			size := wholeSize(text, 8)
			s := impl.Store{Width: 8, Room: size - less}
			for i, other := range different(t, 20, 19, 8) {
				if bytesOf(s)+19 <= s.Room {
					s = withItem(s, impl.Item{Text: other, Used: i * 300})
				}
			}
			f, _ := fetchFrom(t, checkNew(t, s, impl.Name(text, 8), peers), somePeers(t, peers, 8, parts...))
			if less == 0 {
				doneWith(t, "just the room", f, text)
				holdsJust(t, "just the room", f.Store, parts...)
			} else {
				notDone(t, "one byte too few", f)
			}
			if f.Full != (less == 1) {
				t.Errorf("%d less: full %v", less, f.Full)
			}
			for i, p := range f.Peers {
				if p.Lies != 0 {
					t.Errorf("%d less: peer %d lied: %s", less, i+1, shortPeer(p))
				}
			}
		}
	}
}

func TestNotsHaveTheirRoom(t *testing.T) {
	most := impl.MaxPieces + 1
	for width := 2; width <= impl.MaxWidth; width++ {
		sums := countedSet(100, most+2, width)
		name := strings.Repeat("n", width)
		for _, c := range []struct {
			what string
			nots []string
			sum  string
			more int
		}{
			{"the first", nil, sums[0], 1},
			{"ahead of one", sums[1:2], sums[0], 1},
			{"behind one", sums[:1], sums[1], 1},
			{"between two", []string{sums[0], sums[2]}, sums[1], 1},
			{"one of them already", sums[:3], sums[1], 0},
			{"the one already", sums[:1], sums[0], 0},
			{"the last that has room", sums[:most-1], sums[most-1], 1},
			{"the last that has room, in front", sums[1:most], sums[0], 1},
			{"one too many", sums[:most], sums[most], 0},
			{"one too many, in front", sums[1 : most+1], sums[0], 0},
			{"one too many, between them", append(slices.Clone(sums[:9]), sums[10:most+1]...), sums[9], 0},
			{"one of all that there is room for", sums[:most], sums[7], 0},
		} {
			f := waiting(t, impl.Store{Width: width, Room: 100}, name, c.sum)
			f.Peers[0].Nots = c.nots
			f.Peers[1].Nots = sums[3:5]
			for _, text := range []string{"", "some text", "lie"} {
				got := checkTake(t, f, impl.Message{From: 1, Sum: c.sum, Text: text})
				heard(t, c.what, f, got, 1)
				if n := len(got.Peers[0].Nots); n != len(c.nots)+c.more || c.more == 1 && !slices.Contains(got.Peers[0].Nots, c.sum) {
					t.Errorf("width %d, %s: %d nots, then %d", width, c.what, len(c.nots), n)
				}
				if got.Full || !sameStore(got.Store, f.Store) {
					t.Errorf("width %d, %s: %s", width, c.what, shortFetch(got))
				}
			}
		}
	}
	// With Has false the text counts for nothing, and be it the right one.
	text := "the text that is asked for"
	f := waiting(t, impl.Store{Width: 8, Room: 100}, "the name", impl.Sum(text, 8))
	got := checkTake(t, f, impl.Message{From: 1, Sum: impl.Sum(text, 8), Text: text})
	heard(t, "the text without Has", f, got, 1)
	if len(got.Store.Items) != 0 || !slices.Equal(got.Peers[0].Nots, []string{impl.Sum(text, 8)}) {
		t.Errorf("%s", shortFetch(got))
	}
}

// TestWrongMessages: answers that nobody was asked for, and what is no answer, change nothing.
func TestWrongMessages(t *testing.T) {
	for peers := 1; peers <= impl.MaxPeers; peers++ {
		f, sums := lackingSix(t, peers)
		f, _ = checkTick(t, f)
		idle := peers
		if peers > 1 {
			f.Peers[idle-1].Wait, f.Peers[idle-1].Asked = 0, ""
		}
		right := impl.Message{From: 1, Sum: f.Peers[0].Asked, Has: true, Text: "text zero"}
		if got := checkTake(t, f, right); placeOf(got.Store, sums[0]) < 0 {
			t.Fatalf("%s must be taken", shortMessages(right))
		}
		wrong := []impl.Message{{}, {Has: true}, {Sum: sums[0]}, {Sum: sums[0], Has: true, Text: "text zero"}, {To: 1, Sum: sums[0]}}
		for _, from := range []int{0, -1, -peers, peers + 1, impl.MaxPeers + 1, math.MinInt, math.MaxInt} {
			wrong = append(wrong, impl.Message{From: from, Sum: right.Sum, Has: true, Text: right.Text}, impl.Message{From: from, Sum: right.Sum})
		}
		for _, to := range []int{1, 2, -1, peers, math.MinInt, math.MaxInt} {
			wrong = append(wrong, impl.Message{From: 1, To: to, Sum: right.Sum, Has: true, Text: right.Text}, impl.Message{From: 1, To: to, Sum: right.Sum}, impl.Message{From: 1, To: to, Sum: right.Sum, Has: true, Text: "lie"})
		}
		for _, sum := range []string{"", sums[5], f.Name, right.Sum[1:], right.Sum + "\x00", right.Sum[:7] + "\x00", strings.Repeat("s", 5000)} {
			wrong = append(wrong, impl.Message{From: 1, Sum: sum, Has: true, Text: right.Text}, impl.Message{From: 1, Sum: sum}, impl.Message{From: 1, Sum: sum, Has: true, Text: "lie"})
		}
		if peers > 1 {
			for _, sum := range []string{"", sums[0], sums[idle-1], sums[5], f.Name} {
				wrong = append(wrong, impl.Message{From: idle, Sum: sum, Has: true, Text: "text five"}, impl.Message{From: idle, Sum: sum}, impl.Message{From: idle, Sum: sum, Has: true})
			}
		}
		for _, m := range wrong {
			if got := checkTake(t, f, m); !sameFetch(got, f) {
				t.Errorf("%d peers, %s: %s, then %s", peers, shortMessages(m), shortFetch(f), shortFetch(got))
			}
		}
		// The same answer twice: the second one is of a peer that does not wait.
		once := checkTake(t, f, right)
		for _, m := range []impl.Message{right, {From: 1, Sum: right.Sum}, {From: 1, Sum: right.Sum, Has: true, Text: "lie"}} {
			if twice := checkTake(t, once, m); !sameFetch(once, twice) {
				t.Errorf("%d peers, %s once more: %s", peers, shortMessages(m), shortFetch(twice))
			}
		}
	}
}

// TestEachPeerAnswersForItself: two wait for one sum, and one answers.
func TestEachPeerAnswersForItself(t *testing.T) {
	f, sums := lackingSix(t, 3)
	f.Peers[0] = impl.Peer{Wait: 3, Asked: sums[0]}
	f.Peers[2] = impl.Peer{Wait: 4, Asked: sums[0], Lies: 1}
	got := checkTake(t, f, impl.Message{From: 3, Sum: sums[0], Has: true, Text: "text zero"})
	if !samePeer(got.Peers[0], f.Peers[0]) || got.Peers[2].Wait != 0 || placeOf(got.Store, sums[0]) < 0 {
		t.Errorf("%s", shortFetch(got))
	}
	// The other one's answer comes to a text that is there.
	got.Now = 50
	again := checkTake(t, got, impl.Message{From: 1, Sum: sums[0], Has: true, Text: "text zero"})
	if at := placeOf(again.Store, sums[0]); again.Peers[0].Lies != 0 || again.Peers[0].Wait != 0 || again.Store.Items[at].Used != 50 {
		t.Errorf("%s", shortFetch(again))
	}
	lied := checkTake(t, got, impl.Message{From: 1, Sum: sums[0], Has: true, Text: "text one"})
	if lied.Peers[0].Lies != 1 || !sameStore(lied.Store, got.Store) {
		t.Errorf("%s", shortFetch(lied))
	}
}

func TestNewFetches(t *testing.T) {
	for width := 1; width <= impl.MaxWidth; width++ {
		s := withPins(storeOf(t, width, 100, "some text"), strings.Repeat("p", width))
		for peers := 1; peers <= impl.MaxPeers; peers++ {
			for _, name := range []string{strings.Repeat("n", width), strings.Repeat("p", width), strings.Repeat("\x00", width), strings.Repeat("\xff", width)} {
				f := checkNew(t, s, name, peers)
				if f.Name != name || len(f.Peers) != peers || f.Now != 0 || f.Full || !slices.Contains(f.Store.Pins, name) {
					t.Errorf("width %d, %d peers: %s", width, peers, shortFetch(f))
				}
				for _, p := range f.Peers {
					if !samePeer(p, impl.Peer{Last: -1}) {
						t.Errorf("width %d, %d peers: %s", width, peers, shortPeer(p))
					}
				}
			}
		}
		for _, peers := range []int{0, -1, impl.MaxPeers + 1, math.MinInt, math.MaxInt} {
			if f := checkNew(t, s, strings.Repeat("n", width), peers); !sameFetch(f, impl.Fetch{}) {
				t.Errorf("width %d, %d peers: %s", width, peers, shortFetch(f))
			}
		}
		for _, name := range []string{"", strings.Repeat("n", width-1), strings.Repeat("n", width+1), strings.Repeat("n", 5000), strings.Repeat("p", width) + "\x00"} {
			if f := checkNew(t, s, name, 2); !sameFetch(f, impl.Fetch{}) {
				t.Errorf("width %d, a name of %d bytes: %s", width, len(name), shortFetch(f))
			}
		}
	}
	// MaxPins: one more is refused, one of them is none more.
	s := impl.Store{Width: 2, Room: 100, Pins: strings.Fields("p0 p1 p2 p3 p4 p5 p6 p7 p8 p9")}
	if f := checkNew(t, s, "pa", 2); !sameFetch(f, impl.Fetch{}) {
		t.Errorf("one pin too many: %s", shortFetch(f))
	}
	if f := checkNew(t, s, "p4", 2); len(f.Store.Pins) != impl.MaxPins {
		t.Errorf("one of MaxPins pins: %s", shortFetch(f))
	}
	s.Pins = s.Pins[1:]
	if f := checkNew(t, s, "pa", 2); len(f.Store.Pins) != impl.MaxPins {
		t.Errorf("the last pin: %s", shortFetch(f))
	}
	for what, s := range wrongStores(t) {
		for _, name := range []string{"p1", "nn", "", strings.Repeat("n", 8)} {
			if f := checkNew(t, s, name, 2); !sameFetch(f, impl.Fetch{}) {
				t.Errorf("%s, %q: %s", what, name, shortFetch(f))
			}
		}
	}
}

// wrongFetches are fetches that are not valid, each for one reason.
func wrongFetches(t *testing.T) map[string]impl.Fetch {
	sum := impl.Sum("piece", 2)
	right := checkNew(t, storeOf(t, 2, 100, "aaa", formOf(2, "piece")), impl.Sum(formOf(2, "piece"), 2), 3)
	right.Store.Pins = nots(append(right.Store.Pins, "p1")...)
	right.Now = 50
	right.Peers[0] = impl.Peer{Lies: 2, Wait: 3, Last: 50, Asked: sum, Nots: []string{"n1", "n2", "n3"}}
	right.Peers[1] = impl.Peer{Lies: 3, Last: 0, Nots: []string{"n1", "n2", "n3"}}
	if !impl.ValidFetch(right) || !wantFetch(right) {
		t.Fatal("the fetch that these are made of must be valid")
	}
	out := map[string]impl.Fetch{"nothing": {}}
	add := func(what string, change func(f *impl.Fetch)) {
		f := copyFetch(right)
		change(&f)
		out[what] = f
	}
	for what, s := range wrongStores(t) {
		add("its store: "+what, func(f *impl.Fetch) { f.Store, f.Name = s, "p1" })
	}
	add("another width", func(f *impl.Fetch) { f.Store = impl.Store{Width: 3, Room: 9, Pins: []string{"nnn"}}; f.Name = "nnn" })
	for _, name := range []string{"", "n", "nn", "n11", "p0", "p2", sum, right.Name + "\x00", right.Name[:1], strings.Repeat("n", 5000)} {
		add(fmt.Sprintf("the name %.9q", name), func(f *impl.Fetch) { f.Name = name })
	}
	add("no pins", func(f *impl.Fetch) { f.Store.Pins = nil })
	add("no pins and no name", func(f *impl.Fetch) { f.Store.Pins, f.Name = nil, "" })
	for _, now := range []int{-1, 49, impl.MaxTime + 1, math.MinInt, math.MaxInt} {
		add("now "+strconv.Itoa(now), func(f *impl.Fetch) { f.Now = now })
	}
	for _, now := range []int{-1, impl.MaxTime + 1} {
		add("peers that were never asked, now "+strconv.Itoa(now), func(f *impl.Fetch) { f.Now, f.Peers = now, []impl.Peer{{Last: -1}} })
	}
	add("no peers", func(f *impl.Fetch) { f.Peers = nil })
	add("too many peers", func(f *impl.Fetch) { f.Peers = slices.Repeat([]impl.Peer{{Last: -1}}, impl.MaxPeers+1) })
	for i := range 3 {
		addWrongPeers(right.Now, func(what string, change func(p *impl.Peer)) {
			add(fmt.Sprintf("peer %d, %s", i+1, what), func(f *impl.Fetch) { change(&f.Peers[i]) })
		})
	}
	return out
}

// addWrongPeers adds what may be wrong with one peer, of the width 2.
func addWrongPeers(now int, add func(what string, change func(p *impl.Peer))) {
	for _, lies := range []int{-1, impl.MaxLies + 1, math.MinInt, math.MaxInt} {
		add("lies "+strconv.Itoa(lies), func(p *impl.Peer) { p.Lies = lies })
	}
	for _, wait := range []int{-1, impl.AskTicks + 1, math.MinInt, math.MaxInt} {
		add("wait "+strconv.Itoa(wait), func(p *impl.Peer) { p.Wait, p.Asked = wait, "aa" })
		add("wait "+strconv.Itoa(wait)+" for nothing", func(p *impl.Peer) { p.Wait, p.Asked = wait, "" })
	}
	for _, last := range []int{-2, now + 1, math.MinInt, math.MaxInt} {
		add("last "+strconv.Itoa(last), func(p *impl.Peer) { p.Last = last })
	}
	for _, asked := range []string{"", "a", "aaa", strings.Repeat("a", 5000)} {
		add(fmt.Sprintf("waits, asked for %d bytes", len(asked)), func(p *impl.Peer) { p.Wait, p.Asked = 1, asked })
	}
	for _, asked := range []string{"a", "aa", "aaa"} {
		add("does not wait, asked "+asked, func(p *impl.Peer) { p.Wait, p.Asked = 0, asked })
	}
	for _, sums := range [][]string{{""}, {"n"}, {"n11"}, {"n1", "n1"}, {"n2", "n1"}, {"n1", "n3", "n2"}, {"n1", "n2", "n2"}, {"", "n1"}, {"n1", ""}, {"n1", "n2 "}, {"n", "n1"}} {
		add(fmt.Sprintf("nots %q", sums), func(p *impl.Peer) { p.Nots = sums })
	}
	add("too many nots", func(p *impl.Peer) { p.Nots = countedSet(5, impl.MaxPieces+2, 2) })
}

func TestWrongFetches(t *testing.T) {
	for what, f := range wrongFetches(t) {
		if impl.ValidFetch(f) || wantFetch(f) {
			t.Errorf("%s: valid", what)
		}
		if got, sent := checkTick(t, f); !sameFetch(got, impl.Fetch{}) || len(sent) != 0 {
			t.Errorf("%s: %s, %s", what, shortFetch(got), shortMessages(sent...))
		}
		for _, m := range []impl.Message{{}, {From: 1, Sum: impl.Sum("piece", 2), Has: true, Text: "piece"}, {From: 1, Sum: impl.Sum("piece", 2)}, {From: 1, Sum: impl.Sum("piece", 2), Has: true, Text: "lie"}, {From: 2}, {From: 1, Sum: "aa"}} {
			if got := checkTake(t, f, m); !sameFetch(got, impl.Fetch{}) {
				t.Errorf("%s, %s: %s", what, shortMessages(m), shortFetch(got))
			}
		}
		notDone(t, what, f)
	}
	// One that is done, but for being valid.
	text := drawn(1, 100, lowLetters)
	s, _ := checkSave(t, impl.Store{Width: 8, Room: 1000}, text, 1)
	f := checkNew(t, s, impl.Name(text, 8), 1)
	doneWith(t, "valid", f, text)
	for what, change := range map[string]func(f *impl.Fetch){
		"its room":    func(f *impl.Fetch) { f.Store.Room = 99 },
		"no pin":      func(f *impl.Fetch) { f.Store.Pins = nil },
		"another pin": func(f *impl.Fetch) { f.Store.Pins = []string{"another1"} },
		"now":         func(f *impl.Fetch) { f.Now = -1 },
		"no peers":    func(f *impl.Fetch) { f.Peers = nil },
		"a peer":      func(f *impl.Fetch) { f.Peers[0].Lies = 4 },
	} {
		wrong := copyFetch(f)
		change(&wrong)
		notDone(t, what, wrong)
	}
}

// TestFetchesThatAreNearlyWrong: each bound that a fetch has is met exactly.
func TestFetchesThatAreNearlyWrong(t *testing.T) {
	f, sums := lackingSix(t, 1)
	for what, change := range map[string]func(f *impl.Fetch){
		"now 0":                     func(f *impl.Fetch) { f.Now = 0 },
		"now MaxTime":               func(f *impl.Fetch) { f.Now = impl.MaxTime },
		"last at MaxTime":           func(f *impl.Fetch) { f.Now, f.Peers[0].Last = impl.MaxTime, impl.MaxTime },
		"last now":                  func(f *impl.Fetch) { f.Peers[0].Last = f.Now },
		"last 0 and now 0":          func(f *impl.Fetch) { f.Now, f.Peers[0].Last = 0, 0 },
		"full":                      func(f *impl.Fetch) { f.Full = true },
		"MaxLies":                   func(f *impl.Fetch) { f.Peers[0].Lies = impl.MaxLies },
		"AskTicks":                  func(f *impl.Fetch) { f.Peers[0].Wait, f.Peers[0].Asked = impl.AskTicks, sums[3] },
		"waits, and was never":      func(f *impl.Fetch) { f.Peers[0].Wait, f.Peers[0].Asked, f.Peers[0].Last = 1, "whatever", -1 },
		"all Nots":                  func(f *impl.Fetch) { f.Peers[0].Nots = countedSet(1, impl.MaxPieces+1, 8) },
		"MaxPeers":                  func(f *impl.Fetch) { f.Peers = slices.Repeat([]impl.Peer{{Last: -1}}, impl.MaxPeers) },
		"a Last without a question": func(f *impl.Fetch) { f.Peers[0].Last = 3 },
		"used later than now":       func(f *impl.Fetch) { f.Store.Items[0].Used = impl.MaxTime },
	} {
		near := copyFetch(f)
		change(&near)
		if !impl.ValidFetch(near) || !wantFetch(near) {
			t.Errorf("%s: not valid: %s", what, shortFetch(near))
		}
		next, _ := checkTick(t, near)
		checkTick(t, next)
		for _, m := range []impl.Message{{From: 1, Sum: near.Peers[0].Asked}, {From: 1, Sum: near.Peers[0].Asked, Has: true, Text: "text three"}, {From: 1, Sum: next.Peers[0].Asked, Has: true, Text: "text zero"}} {
			checkTake(t, near, m)
			checkTake(t, next, m)
		}
		checkDone(t, near)
	}
}
