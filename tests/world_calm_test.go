package tests

import (
	"fmt"
	"math"
	"slices"
	"strings"
	"testing"

	"loop.example/kilnpass/impl"
)

// TestTwoPasses: in one round the questions are brought, and then the answers to them.
func TestTwoPasses(t *testing.T) {
	w, sums := askedWorld(t)
	w = say(t, w, impl.Message{From: 1, Sum: sums[0], Has: true, Text: "lie"})
	// By hand: the tick sends nothing, the questions become answers behind the lie, which is brought ahead of them.
	hand := do(t, w, impl.EvTick)
	if len(hand.Flight) != 4 {
		t.Fatalf("%s", shortWorld(hand))
	}
	for range 4 {
		hand = do(t, hand, impl.EvBring)
	}
	if len(hand.Flight) != 3 || hand.Wasted != 1 || hand.Flight[0].From != 1 || hand.Flight[1].From != 2 || hand.Flight[2].From != 3 {
		t.Errorf("behind the first pass: %s", shortWorld(hand))
	}
	for range 3 {
		hand = do(t, hand, impl.EvBring)
	}
	if got := checkCalm(t, w, 1); !sameWorld(got, hand) || len(got.Flight) != 0 || got.Wasted != 1 || placeOf(got.Fetch.Store, sums[0]) >= 0 {
		t.Errorf("%s,\nnot %s", shortWorld(got), shortWorld(hand))
	}
	// What a tick sends is answered in its own round.
	one := worldOf(t, impl.Name("a thing", 8), 100, holding(t, 8, partsOf("a thing", 8)...))
	for rounds, items := range []int{0, 1, 2, 2} {
		if got := checkCalm(t, one, rounds); len(got.Fetch.Store.Items) != items || len(got.Flight) != 0 || got.Fetch.Now != rounds {
			t.Errorf("%d rounds: %s", rounds, shortWorld(got))
		}
	}
}

// TestTwoPassesOfFullFlight: what is in flight already is brought, too, all of it, and what the tick sends is lost.
func TestTwoPassesOfFullFlight(t *testing.T) {
	w, sums := askedWorld(t)
	f, _ := lackingSix(t, 3)
	fresh := checkNewWorld(t, f, w.Stores)
	questions := slices.Repeat(w.Flight[:1], impl.MaxFlight/2)
	full := flying(fresh, append(someFlight(impl.MaxFlight/2), questions...)...)
	got := checkCalm(t, full, 1)
	if placeOf(got.Fetch.Store, sums[0]) < 0 || len(got.Flight) != 0 || got.Fetch.Peers[0].Wait != 0 {
		t.Errorf("%s", shortWorld(got))
	}
	// The other two were asked, and their questions are lost.
	for i, p := range got.Fetch.Peers[1:] {
		if p.Asked != sums[i+1] || p.Wait != impl.AskTicks || len(p.Nots) != 0 {
			t.Errorf("peer %d: %s", i+2, shortPeer(p))
		}
	}
	for _, room := range []int{0, 1, 2, 3, 4} {
		checkCalm(t, flying(fresh, someFlight(impl.MaxFlight-room)...), 1)
		checkCalm(t, flying(fresh, slices.Repeat(w.Flight[1:2], impl.MaxFlight-room)...), 2)
	}
}

// restless are worlds that go on and on: peers that are down are asked again and again.
func restless(t *testing.T) impl.World {
	t.Helper()
	w := worldOf(t, "the name", 100, somePeers(t, 2, 8, "one", "two")...)
	return do(t, do(t, w, impl.EvFall, 1), impl.EvFall, 2)
}

func TestRoundsAtTheirLimits(t *testing.T) {
	asked, _ := askedWorld(t)
	for _, w := range []impl.World{restless(t), asked} {
		for _, rounds := range []int{0, -1, -2, -impl.MaxCalm, math.MinInt} {
			if got := checkCalm(t, w, rounds); !sameWorld(got, w) {
				t.Errorf("%d rounds: %s, then %s", rounds, shortWorld(w), shortWorld(got))
			}
		}
		most := wantCalm(w, impl.MaxCalm, impl.Do)
		for _, rounds := range []int{impl.MaxCalm, impl.MaxCalm + 1, 2 * impl.MaxCalm, math.MaxInt} {
			if got := impl.Calm(w, rounds); got.Fetch.Now != w.Fetch.Now+impl.MaxCalm || !sameWorld(got, most) {
				t.Errorf("%d rounds: %s", rounds, shortWorld(got))
			}
		}
		for _, rounds := range []int{1, 2, impl.MaxCalm - 1} {
			if got := impl.Calm(w, rounds); got.Fetch.Now != w.Fetch.Now+rounds {
				t.Errorf("%d rounds: it is %d", rounds, got.Fetch.Now)
			}
		}
	}
}

func TestRoundsAndThenMore(t *testing.T) {
	asked, _ := askedWorld(t)
	text := drawn(3, 400, lowLetters)
	parts := partsOf(text, 8)
	some := worldOf(t, impl.Name(text, 8), 2000, holding(t, 8, parts[:5]...), holding(t, 8, parts[3:]...), holding(t, 8, "nothing"))
	late := flying(some, someFlight(impl.MaxFlight)...)
	late.Fetch.Now = impl.MaxTime - 700
	for _, w := range []impl.World{restless(t), asked, some, late, do(t, some, impl.EvFall, 2), worldOf(t, impl.Name(text, 8), 99, holding(t, 8, parts...))} {
		for _, a := range []int{0, 1, 2, 7, 500, impl.MaxCalm / 2, impl.MaxCalm - 1, impl.MaxCalm} {
			checkRounds(t, w, a, impl.MaxCalm-a)
			for _, b := range []int{0, 1, 2, 5, 9} {
				checkRounds(t, w, min(a, 10), b)
			}
		}
	}
	for a := range 12 {
		for b := range 12 {
			checkRounds(t, some, a, b)
			checkRounds(t, asked, a, b)
		}
	}
}

// othersOf are the ways in which all peers but one hinder a fetch of this thing.
func othersOf(t *testing.T, text string, width int) map[string]func(w impl.World, peer int) impl.World {
	t.Helper()
	parts := partsOf(text, width)
	fill := func(w impl.World, m impl.Message) impl.World {
		for len(w.Flight) < impl.MaxFlight {
			w.Flight = append(w.Flight, m)
		}
		return w
	}
	return map[string]func(w impl.World, peer int) impl.World{
		"help":          func(w impl.World, peer int) impl.World { w.Stores[peer-1] = holding(t, width, parts...); return w },
		"are down":      func(w impl.World, peer int) impl.World { w.Up[peer-1] = false; return w },
		"have nothing":  func(w impl.World, peer int) impl.World { return w },
		"have the list": func(w impl.World, peer int) impl.World { w.Stores[peer-1] = holding(t, width, parts[0]); return w },
		"fill the sky": func(w impl.World, peer int) impl.World {
			return fill(w, impl.Message{From: peer, Sum: w.Fetch.Name, Has: true})
		},
		"are asked much": func(w impl.World, peer int) impl.World { return fill(w, impl.Message{To: peer, Sum: w.Fetch.Name}) },
		"wait": func(w impl.World, peer int) impl.World {
			p := &w.Fetch.Peers[peer-1]
			p.Wait, p.Asked, p.Last = impl.AskTicks, w.Fetch.Name, 0
			w.Up[peer-1] = false
			return w
		},
		"have another text for the list": func(w impl.World, peer int) impl.World {
			w.Stores[peer-1] = holding(t, width, sameSum(t, parts[0], min(width, 2)))
			return w
		},
	}
}

// TestLiveness: one peer has it, wherever it stands, whatever the others do.
func TestLiveness(t *testing.T) {
	things := append(someThings(), drawn(1, 1500, allBytes()))
	counts := map[string]int{}
	for _, width := range []int{2, 3, 8} {
		for i, text := range things {
			if width == 2 && len(wantPieces(text)) > 6 {
				continue
			}
			for what, other := range othersOf(t, text, width) {
				for _, peers := range []int{1, 2, 5} {
					honest := 1 + i%peers
					stores := slices.Repeat([]impl.Store{{Width: width, Room: 9000}}, peers)
					stores[honest-1] = holding(t, width, partsOf(text, width)...)
					w := worldOf(t, impl.Name(text, width), wholeSize(text, width), stores...)
					for peer := 1; peer <= peers; peer++ {
						if peer != honest {
							w = other(w, peer)
						}
					}
					if _, so := isLively(w, honest); !so || !impl.ValidWorld(w) {
						t.Fatalf("%s: %s", what, shortWorld(w))
					}
					checkLively(t, w, counts)
					if end := impl.Calm(w, 202+2*len(wantPieces(text))); end.Fetch.Full || end.Fetch.Peers[honest-1].Lies != 0 {
						t.Errorf("the others %s: %s", what, shortWorld(end))
					} else {
						doneWith(t, "the others "+what, end.Fetch, text)
					}
				}
			}
		}
	}
	if counts["lively, done"] < 300 || counts["lively, clash"]+counts["lively, full"] > 0 {
		t.Errorf("%v", counts)
	}
}

// TestLivenessOfLimits: a thing of MaxPieces from one peer of MaxPeers, the others being down, late in time and when it was just
// asked for something whose answer is lost.
func TestLivenessOfLimits(t *testing.T) {
	text := greatThing()
	parts := partsOf(text, 8)
	for honest := 1; honest <= impl.MaxPeers; honest += 2 {
		stores := slices.Repeat([]impl.Store{{Width: 8, Room: 9000}}, impl.MaxPeers)
		stores[honest-1] = holding(t, 8, parts...)
		w := worldOf(t, impl.Name(text, 8), wholeSize(text, 8), stores...)
		w.Fetch.Now = impl.MaxTime - 3000
		for i := range w.Up {
			w.Up[i] = i == honest-1
			w.Fetch.Peers[i] = impl.Peer{Wait: impl.AskTicks, Last: w.Fetch.Now, Asked: w.Fetch.Name}
		}
		w.Fetch.Peers[honest-1].Lies = impl.MaxLies - 1
		if _, so := isLively(w, honest); !so || !impl.ValidWorld(w) {
			t.Fatalf("%s", shortWorld(w))
		}
		end := impl.Calm(w, 200+2*(impl.MaxPieces+1))
		doneWith(t, fmt.Sprintf("peer %d", honest), end.Fetch, text)
		if end.Wasted != 0 || end.Fetch.Full || !impl.ValidWorld(end) {
			t.Errorf("peer %d: %s", honest, shortWorld(end))
		}
	}
}

// TestLivenessWithClash: a text that has the sum of another one hinders it, and is seen, be it behind the last message alone.
func TestLivenessWithClash(t *testing.T) {
	thing := "a thing"
	for width := 1; width <= 2; width++ {
		parts := partsOf(thing, width)
		if len(parts) != 2 || impl.Sum(parts[0], width) == impl.Sum(parts[1], width) {
			t.Fatalf("width %d: the thing must have one piece: %q", width, parts)
		}
		like := sameSum(t, parts[1], width)
		w := worldOf(t, impl.Name(thing, width), 500, holding(t, width, parts...), holding(t, width, parts[0], like))
		// The first gives the list, the second, which was asked less lately, the piece: a text of another size.
		end := checkCalm(t, w, 204)
		notDone(t, "another piece", end.Fetch)
		lacksJust(t, "another piece", end.Fetch.Store, end.Fetch.Name)
		if end.Fetch.Full || end.Wasted != 0 || !showsClash(w, 204, 1) || !haveClash(end.Fetch.Store, end.Stores[0]) {
			t.Errorf("width %d: %s", width, shortWorld(end))
		}
		// Alone, each of them gives what it has.
		doneWith(t, "the first alone", checkCalm(t, do(t, w, impl.EvFall, 2), 204).Fetch, thing)
		notDone(t, "the second alone", checkCalm(t, do(t, w, impl.EvFall, 1), 204).Fetch)
		// Where the other piece is there from the beginning, nothing is lacked, and nobody is asked.
		there := checkNew(t, holding(t, width, parts[0], like), w.Fetch.Name, 1)
		idle := checkNewWorld(t, there, w.Stores[:1])
		end = checkCalm(t, idle, 204)
		notDone(t, "another piece from the beginning", end.Fetch)
		if !samePeer(end.Fetch.Peers[0], impl.Peer{Last: -1}) || !showsClash(idle, 204, 1) {
			t.Errorf("width %d: %s", width, shortWorld(end))
		}
	}
}

// TestWorldOfOneWholeSum: a peer has another thing, whose sums of 64 bits are those of the right one.
func TestWorldOfOneWholeSum(t *testing.T) {
	for _, pair := range wholeClashes()[:2] {
		for width := 3; width <= impl.MaxWidth; width++ {
			a, b := block(7)+pair[0], block(7)+pair[1]
			w := worldOf(t, impl.Name(a, width), 500, holding(t, width, partsOf(a, width)...), holding(t, width, partsOf(b, width)...))
			for _, down := range []int{0, 1, 2} {
				end := checkCalm(t, do(t, w, impl.EvFall, down), 30)
				text, ok := checkDone(t, end.Fetch)
				if !ok || down == 1 && text != b || down == 2 && text != a || text != a && text != b {
					t.Errorf("width %d, %d is down: %.40q %v", width, down, text, ok)
				}
				checkWhole(t, end.Fetch, a)
				checkWhole(t, end.Fetch, b)
				if end.Wasted != 0 {
					t.Errorf("width %d: %d wasted", width, end.Wasted)
				}
			}
		}
	}
}

// TestGreatWorldsEndSoon: all that a world may hold, for as many rounds as there may be.
func TestGreatWorldsEndSoon(t *testing.T) {
	text := greatThing()
	texts := append(partsOf(text, 8), different(t, impl.MaxItems-impl.MaxPieces-1, 50, 8)...)
	full := withRoom(storeOf(t, 8, impl.MaxRoom, texts...), impl.MaxRoom)
	w := worldOf(t, impl.Name(text, 8), impl.MaxRoom, slices.Repeat([]impl.Store{full}, impl.MaxPeers)...)
	for i := range w.Up {
		w.Up[i] = i > 3
	}
	w.Flight = slices.Repeat([]impl.Message{{From: 1, Sum: w.Fetch.Name, Has: true, Text: strings.Repeat("x", impl.MaxBlob)}}, impl.MaxFlight)
	endsSoon(t, "MaxCalm rounds", func() {
		end := impl.Calm(w, impl.MaxCalm)
		if got, ok := impl.FetchDone(end.Fetch); !ok || got != text || end.Fetch.Now != impl.MaxCalm || end.Wasted > impl.MaxLies {
			t.Errorf("%v, now %d, %d wasted", ok, end.Fetch.Now, end.Wasted)
		}
	})
}
