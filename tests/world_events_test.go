package tests

import (
	"fmt"
	"math"
	"slices"
	"strconv"
	"strings"
	"testing"

	"loop.example/kilnpass/impl"
)

// askedWorld is a world whose three peers were each asked for one of six texts: all are Up, and the questions are in flight. The
// first has all texts, the second has none of them, the third has the last one alone.
func askedWorld(t *testing.T) (impl.World, []string) {
	t.Helper()
	f, sums := lackingSix(t, 3)
	all := holding(t, 8, "text zero", "text one", "text two", "text three", "text four", "text five")
	w := checkNewWorld(t, f, []impl.Store{all, holding(t, 8, "another"), holding(t, 8, "text five")})
	w = do(t, w, impl.EvTick)
	want := []impl.Message{{To: 1, Sum: sums[0]}, {To: 2, Sum: sums[1]}, {To: 3, Sum: sums[2]}}
	if !slices.Equal(w.Flight, want) || w.Fetch.Now != 41 {
		t.Fatalf("%s", shortWorld(w))
	}
	return w, sums
}

// flies asks for this flight and no other change.
func flies(t *testing.T, what string, ahead, got impl.World, flight ...impl.Message) {
	t.Helper()
	if want := flying(ahead, flight...); !sameWorld(got, want) {
		t.Errorf("%s:\n%s,\nnot %s", what, shortWorld(got), shortWorld(want))
	}
}

// someFlight are n messages, all different, that change nothing when they are brought.
func someFlight(n int) []impl.Message {
	flight := []impl.Message{}
	for i := range n {
		flight = append(flight, impl.Message{From: 1, Sum: "none", Text: strconv.Itoa(i)})
	}
	return flight
}

func TestTickPutsInFlight(t *testing.T) {
	w, sums := askedWorld(t)
	// They wait, so the next one sends nothing.
	next := do(t, w, impl.EvTick)
	if !slices.Equal(next.Flight, w.Flight) || next.Fetch.Now != 42 {
		t.Errorf("%s", shortWorld(next))
	}
	// What is sent stands behind what is in flight, in the order in which it is sent.
	f, _ := lackingSix(t, 3)
	f.Peers[0].Last, f.Peers[1].Last = 30, 20
	ahead := flying(checkNewWorld(t, f, w.Stores), someFlight(2)...)
	got := do(t, ahead, impl.EvTick)
	want := append(someFlight(2), impl.Message{To: 3, Sum: sums[0]}, impl.Message{To: 2, Sum: sums[1]}, impl.Message{To: 1, Sum: sums[2]})
	if !slices.Equal(got.Flight, want) {
		t.Errorf("%s", shortMessages(got.Flight...))
	}
	// At MaxTime nothing happens, in a tick as in calm rounds.
	f.Now = impl.MaxTime
	late := flying(checkNewWorld(t, f, w.Stores), someFlight(2)...)
	changesNothing(t, "at MaxTime", late, impl.Event{Kind: impl.EvTick})
	flies(t, "calm at MaxTime", late, checkCalm(t, late, 3))
	late.Fetch.Now--
	last := checkCalm(t, late, 50)
	if last.Fetch.Now != impl.MaxTime || len(last.Fetch.Store.Items) != len(f.Store.Items)+1 {
		t.Errorf("%s", shortWorld(last))
	}
}

// TestFlightHasItsRoom: of three messages those that have room are put in flight, the first ones first.
func TestFlightHasItsRoom(t *testing.T) {
	f, sums := lackingSix(t, 3)
	stores := somePeers(t, 3, 8, "text zero", "text one")
	sent := []impl.Message{{To: 1, Sum: sums[0]}, {To: 2, Sum: sums[1]}, {To: 3, Sum: sums[2]}}
	for room := 0; room <= 5; room++ {
		there := someFlight(impl.MaxFlight - room)
		w := flying(checkNewWorld(t, f, stores), there...)
		has := min(room, 3)
		got := do(t, w, impl.EvTick)
		if want := append(slices.Clone(there), sent[:has]...); !slices.Equal(got.Flight, want) {
			t.Errorf("room for %d: %d in flight, the last %s", room, len(got.Flight), shortMessages(got.Flight[impl.MaxFlight-room:]...))
		}
		// Those that are lost count as asked all the same.
		for i, p := range got.Fetch.Peers {
			if p.Asked != sums[i] || p.Wait != impl.AskTicks || p.Last != 41 {
				t.Errorf("room for %d: peer %d is %s", room, i+1, shortPeer(p))
			}
		}
		one := min(room, 1)
		for _, at := range []int{0, 7, len(there) - 1} {
			flies(t, "doubled", w, do(t, w, impl.EvDouble, at), append(slices.Clone(there), there[at : at+1][:one]...)...)
		}
		said := impl.Message{From: 2, Sum: "said", Has: true, Text: "so"}
		flies(t, "said", w, say(t, w, said), append(slices.Clone(there), []impl.Message{said}[:one]...)...)
		// An answer has the room of its question.
		there[3] = impl.Message{To: 3, Sum: sums[1]}
		w = flying(w, there...)
		answer := impl.Message{From: 3, Sum: sums[1], Has: true, Text: "text one"}
		flies(t, "brought", w, do(t, w, impl.EvBring, 3), append(slices.Delete(slices.Clone(there), 3, 4), answer)...)
		flies(t, "lost", w, do(t, w, impl.EvLose, 3), slices.Delete(slices.Clone(there), 3, 4)...)
		flies(t, "down", do(t, w, impl.EvFall, 3), do(t, do(t, w, impl.EvFall, 3), impl.EvBring, 3), slices.Delete(slices.Clone(there), 3, 4)...)
	}
}

func TestBringQuestions(t *testing.T) {
	w, sums := askedWorld(t)
	q := w.Flight
	has := impl.Message{From: 1, Sum: sums[0], Has: true, Text: "text zero"}
	flies(t, "an Item that is there", w, do(t, w, impl.EvBring, 0), q[1], q[2], has)
	flies(t, "one that is not", w, do(t, w, impl.EvBring, 1), q[0], q[2], impl.Message{From: 2, Sum: sums[1]})
	flies(t, "another one that is", w, do(t, w, impl.EvBring, 2), q[0], q[1], impl.Message{From: 3, Sum: sums[2]})
	// Its Used stays, early or late, and so does all else of the peers' stores, and of the fetch.
	for _, used := range []int{0, 7, impl.MaxTime} {
		for i := range w.Stores[0].Items {
			w.Stores[0].Items[i].Used = used
		}
		got := do(t, w, impl.EvBring, 0)
		flies(t, "its Used stays", w, got, q[1], q[2], has)
		checkCalm(t, w, 3)
	}
	for at := range 3 {
		fallen := do(t, w, impl.EvFall, at+1)
		flies(t, "a peer that is not Up", fallen, do(t, fallen, impl.EvBring, at), slices.Delete(slices.Clone(q), at, at+1)...)
		risen := do(t, fallen, impl.EvRise, at+1)
		if got := do(t, risen, impl.EvBring, at); len(got.Flight) != 3 || got.Flight[2].From != at+1 {
			t.Errorf("a peer that is Up again: %s", shortWorld(got))
		}
	}
	// A question that is doubled is answered twice.
	twice := do(t, do(t, do(t, w, impl.EvDouble, 0), impl.EvBring, 0), impl.EvBring, 2)
	flies(t, "answered twice", w, twice, q[1], q[2], has, has)
}

// TestBringWhatIsNoQuestion: such messages are in valid worlds, too; they are taken out, and nothing comes of them.
func TestBringWhatIsNoQuestion(t *testing.T) {
	w, sums := askedWorld(t)
	for _, m := range []impl.Message{
		{From: 1, To: 2, Sum: sums[5]},
		{From: 3, To: 3, Sum: sums[5]},
		{From: 2, To: 1, Sum: sums[0], Has: true, Text: "text zero"},
		{From: 1, To: 1, Sum: sums[0], Has: true, Text: "text zero"},
		{From: 0, To: 0, Sum: sums[0], Has: true, Text: "text zero"},
		{From: 0, To: 0, Sum: sums[0]},
		{From: 0, To: 0},
		{From: 1, To: 0},
		{From: 1, To: 0, Sum: sums[1], Has: true, Text: "text one"},
		{From: 2, To: 0, Sum: sums[0], Has: true, Text: "text zero"},
		{From: 1, To: 0, Sum: sums[0][:7], Has: true, Text: "text zero"},
	} {
		for at := range 4 {
			flown := flying(w, slices.Insert(slices.Clone(w.Flight), at, m)...)
			flies(t, shortMessages(m), w, do(t, flown, impl.EvBring, at), w.Flight...)
		}
	}
	// Whatever else a question says, it is one; and there is no Item under what is no sum.
	for _, m := range []impl.Message{{To: 1, Sum: sums[4], Has: true}, {To: 1, Sum: sums[4], Text: "whatever"}, {To: 1, Sum: sums[4], Has: true, Text: "text one"}} {
		flies(t, "a question", w, do(t, flying(w, m), impl.EvBring), impl.Message{From: 1, Sum: sums[4], Has: true, Text: "text four"})
	}
	for _, sum := range []string{"", sums[4][:7], "x", sum8("text four")[1:], sum8("text nine"), strings.Repeat("\x00", 8)} {
		flies(t, "no sum", w, do(t, flying(w, impl.Message{To: 1, Sum: sum}), impl.EvBring), impl.Message{From: 1, Sum: sum})
	}
	// A sum of MaxWidth bytes, where sums are shorter.
	short := worldOf(t, "nn", 100, storeOf(t, 2, 100, "text"))
	for sum, has := range map[string]bool{impl.Sum("text", 2): true, impl.Sum("text", 8): false, impl.Sum("text", 1): false, impl.Sum("text", 2) + "\x00": false} {
		got := do(t, flying(short, impl.Message{To: 1, Sum: sum}), impl.EvBring)
		want := impl.Message{From: 1, Sum: sum, Has: has}
		if has {
			want.Text = "text"
		}
		flies(t, "another width", short, got, want)
	}
}

// sum8 is the sum of a text, of 8 bytes.
func sum8(text string) string {
	return impl.Sum(text, 8)
}

func TestBringAnswers(t *testing.T) {
	w, sums := askedWorld(t)
	w.Flight = nil
	put := do(t, say(t, w, impl.Message{From: 1, Sum: sums[0], Has: true, Text: "text zero"}), impl.EvBring)
	if at := placeOf(put.Fetch.Store, sums[0]); at < 0 || put.Fetch.Store.Items[at].Used != 41 || put.Fetch.Peers[0].Wait != 0 || put.Wasted != 0 || len(put.Flight) != 0 {
		t.Errorf("the text: %s", shortWorld(put))
	}
	not := do(t, say(t, w, impl.Message{From: 1, Sum: sums[0]}), impl.EvBring)
	if !slices.Equal(not.Fetch.Peers[0].Nots, sums[:1]) || not.Wasted != 0 {
		t.Errorf("a not: %s", shortWorld(not))
	}
	lie := do(t, say(t, w, impl.Message{From: 1, Sum: sums[0], Has: true, Text: "lie"}), impl.EvBring)
	if lie.Fetch.Peers[0].Lies != 1 || lie.Wasted != 1 {
		t.Errorf("a lie: %s", shortWorld(lie))
	}
	// A peer that is down by then is heard even so: its answer was in flight, or somebody else says it.
	down := do(t, say(t, do(t, w, impl.EvFall, 1), impl.Message{From: 1, Sum: sums[0], Has: true, Text: "text zero"}), impl.EvBring)
	if placeOf(down.Fetch.Store, sums[0]) < 0 || down.Up[0] {
		t.Errorf("a peer that is down: %s", shortWorld(down))
	}
	// What comes twice is taken once.
	m := impl.Message{From: 1, Sum: sums[0], Has: true, Text: "lie"}
	twice := do(t, do(t, do(t, say(t, w, m), impl.EvDouble), impl.EvBring), impl.EvBring)
	if twice.Wasted != 1 || twice.Fetch.Peers[0].Lies != 1 || len(twice.Flight) != 0 {
		t.Errorf("a lie that is doubled: %s", shortWorld(twice))
	}
}

// TestWastedJustWithLies: one more where Lies of a peer is one more, and not where they stay at MaxLies.
func TestWastedJustWithLies(t *testing.T) {
	for lies := 0; lies <= impl.MaxLies; lies++ {
		for _, wasted := range []int{0, 5, 1000, math.MaxInt - 1, math.MaxInt} {
			w, sums := askedWorld(t)
			w.Wasted, w.Flight = wasted, nil
			w.Fetch.Peers[0].Lies, w.Fetch.Peers[2].Lies = lies, 1
			for _, text := range []string{"lie", "", "text one", "another"} {
				got := do(t, say(t, w, impl.Message{From: 1, Sum: sums[0], Has: true, Text: text}), impl.EvBring)
				more := 0
				if lies < impl.MaxLies {
					more = 1
				}
				// At the greatest number there is none that is one more.
				if want := wasted + min(more, math.MaxInt-wasted); got.Wasted != want || got.Fetch.Peers[0].Lies != lies+more || got.Fetch.Peers[2].Lies != 1 {
					t.Errorf("%d lies, %d wasted: %d, then %s", lies, wasted, got.Wasted, shortPeer(got.Fetch.Peers[0]))
				}
			}
			for _, m := range []impl.Message{{From: 1, Sum: sums[0], Has: true, Text: "text zero"}, {From: 1, Sum: sums[0]}, {From: 1, Sum: sums[1], Has: true, Text: "lie"}} {
				if got := do(t, say(t, w, m), impl.EvBring); got.Wasted != wasted {
					t.Errorf("%s: %d wasted, then %d", shortMessages(m), wasted, got.Wasted)
				}
			}
		}
	}
}

// TestLiarsWasteLittle: whoever lies whenever it is asked is asked MaxLies times, and no answer that is not asked for counts.
func TestLiarsWasteLittle(t *testing.T) {
	text := drawn(5, 300, lowLetters)
	for peers := 1; peers <= impl.MaxPeers; peers++ {
		for honest := 0; honest <= 1; honest++ {
			w := worldOf(t, impl.Name(text, 8), 3000, somePeers(t, peers, 8, partsOf(text, 8)...)...)
			for range 60 {
				w = do(t, w, impl.EvTick)
				for _, m := range w.Flight {
					if m.To > honest {
						w = say(t, w, impl.Message{From: m.To, Sum: m.Sum, Has: true, Text: "lie"})
						w = do(t, w, impl.EvDouble, len(w.Flight)-1)
					}
				}
				for len(w.Flight) > 0 {
					w = do(t, w, impl.EvBring, len(w.Flight)-1)
				}
			}
			if honest == 1 {
				doneWith(t, "one tells the truth", w.Fetch, text)
			} else {
				notDone(t, "all lie", w.Fetch)
				if w.Wasted != impl.MaxLies*peers {
					t.Errorf("%d peers: %d wasted", peers, w.Wasted)
				}
			}
			if w.Wasted > impl.MaxLies*(peers-honest) || w.Fetch.Peers[0].Lies > impl.MaxLies*(1-honest) {
				t.Errorf("%d peers, %d of them honest: %d wasted", peers, honest, w.Wasted)
			}
		}
	}
}

// TestMessagesByPlace: the first, the last, and places that there are not.
func TestMessagesByPlace(t *testing.T) {
	for _, n := range []int{0, 1, 2, 5, impl.MaxFlight - 1, impl.MaxFlight} {
		w, _ := askedWorld(t)
		w = flying(w, someFlight(n)...)
		for _, at := range []int{0, n / 2, n - 1} {
			if n == 0 {
				break
			}
			left := slices.Delete(slices.Clone(w.Flight), at, at+1)
			flies(t, "lost", w, do(t, w, impl.EvLose, at), left...)
			flies(t, "brought", w, do(t, w, impl.EvBring, at), left...)
			more := slices.Clone(w.Flight)
			if n < impl.MaxFlight {
				more = append(more, w.Flight[at])
			}
			flies(t, "doubled", w, do(t, w, impl.EvDouble, at), more...)
		}
		for _, at := range []int{-1, n, n + 1, impl.MaxFlight, -n - 1, math.MinInt, math.MaxInt} {
			for _, kind := range []int{impl.EvBring, impl.EvDouble, impl.EvLose} {
				changesNothing(t, "no such message", w, impl.Event{Kind: kind, A: at})
			}
		}
	}
}

func TestSay(t *testing.T) {
	w, sums := askedWorld(t)
	for _, m := range []impl.Message{
		{From: 1},
		{From: 3},
		{From: 2, Has: true},
		{From: 1, Sum: sums[0], Has: true, Text: "text zero"},
		{From: 1, Sum: sums[0], Has: true, Text: "lie"},
		{From: 2, Sum: "short", Text: "without Has"},
		{From: 1, Sum: "12345678"},
		{From: 1, Sum: "12345678", Has: true, Text: strings.Repeat("x", impl.MaxBlob)},
		{From: 3, Sum: "1234567", Has: true, Text: strings.Repeat("x", impl.MaxBlob-1)},
	} {
		flies(t, shortMessages(m), w, say(t, w, m), append(slices.Clone(w.Flight), m)...)
		// Of a peer that is down it may be said as well.
		down := do(t, w, impl.EvFall, m.From)
		flies(t, shortMessages(m), down, say(t, down, m), append(slices.Clone(w.Flight), m)...)
		// Places are nothing to it.
		got := checkDo(t, w, impl.Event{Kind: impl.EvSay, A: -7, B: 99, Message: m})
		flies(t, "with places", w, got, append(slices.Clone(w.Flight), m)...)
	}
	right := impl.Message{From: 1, Sum: sums[0], Has: true, Text: "text zero"}
	wrong := []impl.Message{{}}
	for _, from := range []int{0, -1, 4, 6, math.MinInt, math.MaxInt} {
		wrong = append(wrong, impl.Message{From: from, Sum: right.Sum, Has: true, Text: right.Text})
	}
	for _, to := range []int{1, 2, 3, 4, -1, math.MinInt, math.MaxInt} {
		wrong = append(wrong, impl.Message{From: 1, To: to, Sum: right.Sum, Has: true, Text: right.Text}, impl.Message{From: 0, To: to, Sum: right.Sum})
	}
	for _, n := range []int{9, 10, 5000} {
		wrong = append(wrong, impl.Message{From: 1, Sum: strings.Repeat("s", n)}, impl.Message{From: 1, Sum: right.Sum + strings.Repeat("s", n-8), Has: true, Text: right.Text})
	}
	for _, n := range []int{impl.MaxBlob + 1, 2 * impl.MaxBlob} {
		wrong = append(wrong, impl.Message{From: 1, Sum: right.Sum, Has: true, Text: strings.Repeat("x", n)}, impl.Message{From: 1, Text: strings.Repeat("x", n)})
	}
	for _, m := range wrong {
		changesNothing(t, shortMessages(m), w, impl.Event{Kind: impl.EvSay, Message: m})
		changesNothing(t, shortMessages(m), flying(w), impl.Event{Kind: impl.EvSay, Message: m})
	}
}

func TestFallAndRise(t *testing.T) {
	w, _ := askedWorld(t)
	for peer := 1; peer <= 3; peer++ {
		changesNothing(t, "it is Up already", w, impl.Event{Kind: impl.EvRise, A: peer, B: 5})
		down := do(t, w, impl.EvFall, peer)
		want := copyWorld(w)
		want.Up[peer-1] = false
		if !sameWorld(down, want) {
			t.Errorf("peer %d falls: %s", peer, shortWorld(down))
		}
		changesNothing(t, "it is down already", down, impl.Event{Kind: impl.EvFall, A: peer, B: 5})
		if up := do(t, down, impl.EvRise, peer); !sameWorld(up, w) {
			t.Errorf("peer %d rises: %s", peer, shortWorld(up))
		}
		other := peer%3 + 1
		both := do(t, down, impl.EvFall, other)
		if both.Up[peer-1] || both.Up[other-1] || !both.Up[other%3] {
			t.Errorf("peers %d and %d fall: %v", peer, other, both.Up)
		}
	}
}

func TestDrop(t *testing.T) {
	w, _ := askedWorld(t)
	w.Stores[0].Pins = []string{sum8("text one"), "pinned 8"}
	slices.Sort(w.Stores[0].Pins)
	for peer, s := range w.Stores {
		for place := range s.Items {
			got := do(t, w, impl.EvDrop, peer+1, place)
			want := copyWorld(w)
			want.Stores[peer].Items = append(slices.Clone(s.Items[:place]), s.Items[place+1:]...)
			if !sameWorld(got, want) {
				t.Errorf("peer %d drops %d: %s", peer+1, place, shortWorld(got))
			}
		}
		n := len(s.Items)
		for _, place := range []int{-1, n, n + 1, -n, impl.MaxItems, math.MinInt, math.MaxInt} {
			changesNothing(t, "no such Item", w, impl.Event{Kind: impl.EvDrop, A: peer + 1, B: place})
		}
	}
	// One by one, until none is left, from either end.
	for _, end := range []int{0, 1} {
		all := w
		for left := len(w.Stores[0].Items); left > 0; left-- {
			all = do(t, all, impl.EvDrop, 1, end*(left-1))
		}
		if len(all.Stores[0].Items) != 0 || len(all.Stores[0].Pins) != 2 {
			t.Errorf("all are dropped: %s", shortWorld(all))
		}
		changesNothing(t, "none is left", all, impl.Event{Kind: impl.EvDrop, A: 1})
		// It says then that it has it not.
		flies(t, "a question behind it", all, do(t, all, impl.EvBring), append(slices.Clone(w.Flight[1:]), impl.Message{From: 1, Sum: w.Flight[0].Sum})...)
	}
	full := w
	full.Stores = somePeers(t, 3, 8, different(t, impl.MaxItems, 5, 8)...)
	for _, place := range []int{0, impl.MaxItems / 2, impl.MaxItems - 1} {
		if got := impl.Do(full, impl.Event{Kind: impl.EvDrop, A: 2, B: place}); !sameWorld(got, wantDo(full, impl.Event{Kind: impl.EvDrop, A: 2, B: place})) || len(got.Stores[1].Items) != impl.MaxItems-1 {
			t.Errorf("place %d of MaxItems: %d left", place, len(got.Stores[1].Items))
		}
	}
	if got := impl.Do(full, impl.Event{Kind: impl.EvDrop, A: 2, B: impl.MaxItems}); !sameWorld(got, full) {
		t.Error("behind MaxItems")
	}
}

func TestWrongPeers(t *testing.T) {
	for peers := 1; peers <= impl.MaxPeers; peers++ {
		w := worldOf(t, "the name", 100, somePeers(t, peers, 8, "one", "two")...)
		down := w
		for i := range peers {
			down = do(t, down, impl.EvFall, i+1)
		}
		for _, a := range []int{0, -1, peers + 1, impl.MaxPeers + 1, -peers, math.MinInt, math.MinInt + 1, math.MaxInt} {
			for _, b := range []int{0, 1} {
				changesNothing(t, "no such peer", w, impl.Event{Kind: impl.EvFall, A: a, B: b})
				changesNothing(t, "no such peer", down, impl.Event{Kind: impl.EvRise, A: a, B: b})
				changesNothing(t, "no such peer", w, impl.Event{Kind: impl.EvDrop, A: a, B: b})
			}
		}
	}
}

func TestWrongKinds(t *testing.T) {
	w, sums := askedWorld(t)
	for _, kind := range []int{0, -1, -2, -8, 9, 10, 16, 257, 258, math.MinInt, math.MaxInt} {
		for _, a := range []int{0, 1, 2, -1} {
			changesNothing(t, "no such kind", w, impl.Event{Kind: kind, A: a, Message: impl.Message{From: 1, Sum: sums[0], Has: true, Text: "lie"}})
		}
	}
	changesNothing(t, "the event that is nothing", w, impl.Event{})
}

// TestEventsReadTheirPartsAlone: what an event holds besides changes nothing.
func TestEventsReadTheirPartsAlone(t *testing.T) {
	w, sums := askedWorld(t)
	w = say(t, w, impl.Message{From: 2, Sum: sums[1]})
	for kind := impl.EvTick; kind <= impl.EvDrop; kind++ {
		for a := 0; a <= 4; a++ {
			for _, b := range []int{0, 1, -1} {
				plain := impl.Event{Kind: kind, A: a, B: b}
				rich := plain
				rich.Message = impl.Message{From: 9, To: 1, Sum: sums[1], Has: true, Text: strings.Repeat("x", 9000)}
				if one, other := checkDo(t, w, plain), checkDo(t, w, rich); !sameWorld(one, other) {
					t.Errorf("%s: %s", shortEvent(rich), shortWorld(other))
				}
			}
		}
	}
}

// wrongWorlds are worlds that are not valid, each for one reason.
func wrongWorlds(t *testing.T) map[string]impl.World {
	name := impl.Sum(formOf(2, "piece"), 2)
	right := worldOf(t, name, 100, storeOf(t, 2, 50, "a", "b"), storeOf(t, 2, 50, "c"), storeOf(t, 2, 50))
	right.Wasted = 2
	right.Flight = []impl.Message{{To: 1, Sum: name}, {From: 2, Sum: "aa", Has: true, Text: "text"}, {From: 3, To: 3}, {}}
	if !impl.ValidWorld(right) || !wantWorld(right) {
		t.Fatal("the world that these are made of must be valid")
	}
	out := map[string]impl.World{"nothing": {}}
	add := func(what string, change func(w *impl.World)) {
		w := copyWorld(right)
		change(&w)
		out[what] = w
	}
	for what, f := range wrongFetches(t) {
		add("its fetch: "+what, func(w *impl.World) { w.Fetch = f })
		add("its fetch, and as many peers: "+what, func(w *impl.World) {
			w.Fetch = f
			w.Up = make([]bool, len(f.Peers))
			w.Stores = slices.Repeat([]impl.Store{{Width: f.Store.Width, Room: 5}}, len(f.Peers))
		})
	}
	for what, s := range wrongStores(t) {
		for i := range 3 {
			add(fmt.Sprintf("store %d: %s", i+1, what), func(w *impl.World) { w.Stores[i] = s })
		}
	}
	for i := range 3 {
		for _, width := range []int{1, 3, 8} {
			add(fmt.Sprintf("store %d: another width, %d", i+1, width), func(w *impl.World) { w.Stores[i] = impl.Store{Width: width, Room: 50} })
		}
	}
	add("stores of another width", func(w *impl.World) { w.Stores = slices.Repeat([]impl.Store{{Width: 3}}, 3) })
	add("a fetch of another width", func(w *impl.World) { w.Fetch = impl.NewFetch(impl.Store{Width: 3}, "nnn", 3) })
	for _, n := range []int{0, 1, 2, 4, 5, 50} {
		add(fmt.Sprintf("%d Up", n), func(w *impl.World) { w.Up = make([]bool, n) })
		add(fmt.Sprintf("%d stores", n), func(w *impl.World) { w.Stores = slices.Repeat(w.Stores[:1], n) })
		if n > 0 && n <= impl.MaxPeers {
			add(fmt.Sprintf("%d peers", n), func(w *impl.World) { w.Fetch = impl.NewFetch(w.Fetch.Store, name, n) })
		}
		add(fmt.Sprintf("%d Up and stores", n), func(w *impl.World) { w.Up, w.Stores = make([]bool, n), slices.Repeat(w.Stores[:1], n) })
	}
	for _, wasted := range []int{-1, -7, math.MinInt} {
		add("wasted "+strconv.Itoa(wasted), func(w *impl.World) { w.Wasted = wasted })
	}
	addWrongFlights(add)
	return out
}

// addWrongFlights adds what may be wrong with the flight of a world of three peers, with four messages in it.
func addWrongFlights(add func(what string, change func(w *impl.World))) {
	for _, n := range []int{impl.MaxFlight + 1, impl.MaxFlight + 2, 5000} {
		add(fmt.Sprintf("%d in flight", n), func(w *impl.World) { w.Flight = make([]impl.Message, n) })
	}
	for i := range 4 {
		for _, number := range []int{-1, 4, 6, math.MinInt, math.MaxInt} {
			add(fmt.Sprintf("message %d from %d", i, number), func(w *impl.World) { w.Flight[i].From = number })
			add(fmt.Sprintf("message %d to %d", i, number), func(w *impl.World) { w.Flight[i].To = number })
		}
		for _, n := range []int{impl.MaxWidth + 1, 5000} {
			add(fmt.Sprintf("message %d, a sum of %d bytes", i, n), func(w *impl.World) { w.Flight[i].Sum = strings.Repeat("s", n) })
		}
		for _, n := range []int{impl.MaxBlob + 1, 2 * impl.MaxBlob} {
			add(fmt.Sprintf("message %d, a text of %d bytes", i, n), func(w *impl.World) { w.Flight[i].Text = strings.Repeat("x", n) })
		}
	}
	last := func(m impl.Message) func(w *impl.World) {
		return func(w *impl.World) { w.Flight = append(make([]impl.Message, impl.MaxFlight-1), m) }
	}
	add("the last of MaxFlight, from", last(impl.Message{From: 4}))
	add("the last of MaxFlight, to", last(impl.Message{To: 4}))
}

func TestWrongWorlds(t *testing.T) {
	for what, w := range wrongWorlds(t) {
		if impl.ValidWorld(w) || wantWorld(w) {
			t.Errorf("%s: valid", what)
		}
		for kind := 0; kind <= 9; kind++ {
			for _, a := range []int{-1, 0, 1, 2} {
				e := impl.Event{Kind: kind, A: a, Message: impl.Message{From: 1, Sum: "aa"}}
				if got := impl.Do(w, e); !sameWorld(got, impl.World{}) {
					t.Errorf("%s, %s: %s", what, shortEvent(e), shortWorld(got))
				}
			}
		}
		for _, rounds := range []int{math.MinInt, -1, 0, 1, 5, impl.MaxCalm, math.MaxInt} {
			if got := impl.Calm(w, rounds); !sameWorld(got, impl.World{}) {
				t.Errorf("%s, %d rounds: %s", what, rounds, shortWorld(got))
			}
		}
	}
}

func TestWrongNewWorlds(t *testing.T) {
	nothing := func(what string, f impl.Fetch, stores []impl.Store) {
		t.Helper()
		if w := checkNewWorld(t, f, stores); !sameWorld(w, impl.World{}) {
			t.Errorf("%s: %s", what, shortWorld(w))
		}
	}
	f := checkNew(t, impl.Store{Width: 2, Room: 100}, "nn", 3)
	right := slices.Repeat([]impl.Store{storeOf(t, 2, 50, "text")}, 3)
	if w := checkNewWorld(t, f, right); len(w.Up) != 3 {
		t.Fatalf("%s", shortWorld(w))
	}
	for what, wrong := range wrongFetches(t) {
		nothing(what, wrong, right)
		nothing(what+", as many stores", wrong, slices.Repeat(right[:1], len(wrong.Peers)))
	}
	for _, n := range []int{0, 1, 2, 4, 5, 50} {
		nothing(fmt.Sprintf("%d stores", n), f, slices.Repeat(right[:1], n))
	}
	nothing("nothing", impl.Fetch{}, nil)
	for i := range 3 {
		for what, s := range wrongStores(t) {
			stores := slices.Clone(right)
			stores[i] = s
			nothing(fmt.Sprintf("store %d: %s", i+1, what), f, stores)
		}
		for _, width := range []int{1, 3, 8} {
			stores := slices.Clone(right)
			stores[i] = impl.Store{Width: width, Room: 5}
			nothing(fmt.Sprintf("store %d: another width", i+1), f, stores)
		}
	}
}

// TestWorldsThatAreNearlyWrong: each bound that a world has is met exactly.
func TestWorldsThatAreNearlyWrong(t *testing.T) {
	right := worldOf(t, "nn", 100, storeOf(t, 2, 50, "a", "b"), storeOf(t, 2, 50, "c"), storeOf(t, 2, 50))
	for what, change := range map[string]func(w *impl.World){
		"MaxFlight":          func(w *impl.World) { w.Flight = make([]impl.Message, impl.MaxFlight) },
		"from the last peer": func(w *impl.World) { w.Flight = []impl.Message{{From: 3, To: 0}} },
		"to the last peer":   func(w *impl.World) { w.Flight = []impl.Message{{From: 0, To: 3}} },
		"from it to it":      func(w *impl.World) { w.Flight = []impl.Message{{From: 3, To: 3}} },
		"from 0 to 0":        func(w *impl.World) { w.Flight = []impl.Message{{}} },
		"a sum of MaxWidth":  func(w *impl.World) { w.Flight = []impl.Message{{From: 1, Sum: "12345678"}} },
		"a sum of one":       func(w *impl.World) { w.Flight = []impl.Message{{To: 1, Sum: "1"}} },
		"a text of MaxBlob":  func(w *impl.World) { w.Flight = []impl.Message{{From: 1, Text: strings.Repeat("x", impl.MaxBlob)}} },
		"a question with it": func(w *impl.World) {
			w.Flight = []impl.Message{{To: 1, Has: true, Text: strings.Repeat("x", impl.MaxBlob)}}
		},
		"wasted a lot":          func(w *impl.World) { w.Wasted = math.MaxInt },
		"wasted without lies":   func(w *impl.World) { w.Wasted = 1 },
		"lies without wasted":   func(w *impl.World) { w.Fetch.Peers[1].Lies = 3 },
		"all are down":          func(w *impl.World) { w.Up = make([]bool, 3) },
		"lists that are empty":  func(w *impl.World) { w.Flight, w.Stores[0].Items = []impl.Message{}, []impl.Item{} },
		"other rooms":           func(w *impl.World) { w.Stores[2] = impl.Store{Width: 2, Room: impl.MaxRoom} },
		"no room":               func(w *impl.World) { w.Stores[2] = impl.Store{Width: 2} },
		"now MaxTime":           func(w *impl.World) { w.Fetch.Now = impl.MaxTime },
		"a store used later on": func(w *impl.World) { w.Stores[0].Items[0].Used = impl.MaxTime },
		"full":                  func(w *impl.World) { w.Fetch.Full = true },
	} {
		near := copyWorld(right)
		change(&near)
		if !impl.ValidWorld(near) || !wantWorld(near) {
			t.Errorf("%s: not valid: %s", what, shortWorld(near))
		}
		for kind := 0; kind <= 9; kind++ {
			for a := -1; a <= 4; a++ {
				checkDo(t, near, impl.Event{Kind: kind, A: a, B: a - 1, Message: impl.Message{From: a, Sum: "nn", Has: true, Text: "size 0\n"}})
			}
		}
		checkCalm(t, near, 2)
	}
}
