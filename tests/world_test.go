package tests

import (
	"fmt"
	"math"
	"slices"
	"strings"
	"testing"

	"loop.example/kilnpass/impl"
)

// wantWorld goes through what the document asks of a world, word by word.
func wantWorld(w impl.World) bool {
	peers := len(w.Fetch.Peers)
	if !wantFetch(w.Fetch) || len(w.Up) != peers || len(w.Stores) != peers || len(w.Flight) > 300 || w.Wasted < 0 {
		return false
	}
	for _, s := range w.Stores {
		if !wantValid(s) || s.Width != w.Fetch.Store.Width {
			return false
		}
	}
	for _, m := range w.Flight {
		if m.From < 0 || m.From > peers || m.To < 0 || m.To > peers || len(m.Sum) > 8 || len(m.Text) > 7000 {
			return false
		}
	}
	return true
}

// copyWorld has lists of its own.
func copyWorld(w impl.World) impl.World {
	w.Fetch, w.Up, w.Flight, w.Stores = copyFetch(w.Fetch), slices.Clone(w.Up), slices.Clone(w.Flight), slices.Clone(w.Stores)
	for i := range w.Stores {
		w.Stores[i] = copyStore(w.Stores[i])
	}
	return w
}

func wantNewWorld(f impl.Fetch, stores []impl.Store) impl.World {
	w := impl.World{Fetch: f, Stores: stores}
	for range f.Peers {
		w.Up = append(w.Up, true)
	}
	if !wantWorld(w) {
		return impl.World{}
	}
	return copyWorld(w)
}

// wantSent is the world with these messages in flight, one by one, as long as there is room.
func wantSent(w impl.World, messages ...impl.Message) impl.World {
	for _, m := range messages {
		if len(w.Flight)+1 <= 300 {
			w.Flight = append(w.Flight, m)
		}
	}
	return w
}

// wantBrought is what happens with a message that was taken out.
func wantBrought(w impl.World, m impl.Message) impl.World {
	if m.To == 0 {
		ahead := w.Fetch
		w.Fetch = wantTake(ahead, m)
		for i, p := range w.Fetch.Peers {
			if p.Lies == ahead.Peers[i].Lies+1 && w.Wasted < math.MaxInt {
				w.Wasted++
			}
		}
	} else if m.From == 0 && w.Up[m.To-1] {
		w = wantSent(w, answerOf(w.Stores[m.To-1], m))
	}
	return w
}

func wantDo(w impl.World, e impl.Event) impl.World {
	if !wantWorld(w) {
		return impl.World{}
	}
	w = copyWorld(w)
	message := e.A >= 0 && e.A < len(w.Flight)
	peer := e.A >= 1 && e.A <= len(w.Up)
	m := e.Message
	switch {
	case e.Kind == 1:
		var sent []impl.Message
		w.Fetch, sent = wantTick(w.Fetch)
		w = wantSent(w, sent...)
	case e.Kind == 2 && message:
		m = w.Flight[e.A]
		w.Flight = slices.Delete(w.Flight, e.A, e.A+1)
		w = wantBrought(w, m)
	case e.Kind == 3 && message:
		w = wantSent(w, w.Flight[e.A])
	case e.Kind == 4 && message:
		w.Flight = slices.Delete(w.Flight, e.A, e.A+1)
	case e.Kind == 5 && m.To == 0 && m.From >= 1 && m.From <= len(w.Up) && len(m.Sum) <= 8 && len(m.Text) <= 7000:
		w = wantSent(w, m)
	case e.Kind == 6 && peer:
		w.Up[e.A-1] = false
	case e.Kind == 7 && peer:
		w.Up[e.A-1] = true
	case e.Kind == 8 && peer && e.B >= 0 && e.B < len(w.Stores[e.A-1].Items):
		s := &w.Stores[e.A-1]
		s.Items = slices.Delete(s.Items, e.B, e.B+1)
	}
	return w
}

// wantCalm makes of rounds the events that they are; do is what lets one happen.
func wantCalm(w impl.World, rounds int, do func(w impl.World, e impl.Event) impl.World) impl.World {
	if !wantWorld(w) {
		return impl.World{}
	}
	w = copyWorld(w)
	for range max(0, min(rounds, 2000)) {
		w = do(w, impl.Event{Kind: 1})
		for pass := 0; pass < 2; pass++ {
			for left := len(w.Flight); left > 0; left-- {
				w = do(w, impl.Event{Kind: 2})
			}
		}
	}
	return w
}

func sameWorld(a, b impl.World) bool {
	return sameFetch(a.Fetch, b.Fetch) && slices.Equal(a.Up, b.Up) && slices.EqualFunc(a.Stores, b.Stores, sameStore) && slices.Equal(a.Flight, b.Flight) && a.Wasted == b.Wasted
}

// shortWorld tells a world in few words.
func shortWorld(w impl.World) string {
	out := fmt.Sprintf("fetch %s, up %v, wasted %d, flight %s", shortFetch(w.Fetch), w.Up, w.Wasted, shortMessages(w.Flight[:min(len(w.Flight), 8)]...))
	for i, s := range w.Stores {
		out += fmt.Sprintf(", store %d: %s", i+1, shortStore(s))
	}
	return fmt.Sprintf("%s (%d in flight)", out, len(w.Flight))
}

func shortEvent(e impl.Event) string {
	return fmt.Sprintf("event %d of %d, %d, %s", e.Kind, e.A, e.B, shortMessages(e.Message))
}

// checkMade holds a world against the one that is wanted, and both against the promises: one made of a valid one is valid, has
// the same fetch and peers, wastes no more than it may, keeps its room, and gives nothing but what was asked for.
func checkMade(t *testing.T, what string, ahead, got, want impl.World) {
	t.Helper()
	if !sameWorld(got, want) {
		t.Errorf("%s of %s:\n%s,\nnot %s", what, shortWorld(ahead), shortWorld(got), shortWorld(want))
	}
	if !wantWorld(ahead) {
		if !sameWorld(got, impl.World{}) || impl.ValidWorld(ahead) {
			t.Errorf("%s of what is not valid: %s, valid %v", what, shortWorld(got), impl.ValidWorld(ahead))
		}
		return
	}
	if !impl.ValidWorld(ahead) || !impl.ValidWorld(got) || !wantWorld(got) {
		t.Fatalf("%s of %s: not valid: %s", what, shortWorld(ahead), shortWorld(got))
	}
	checkBounds(t, what, ahead, got)
	checkKept(t, what, ahead.Fetch.Store, got.Fetch.Store)
	checkDone(t, got.Fetch)
}

// checkBounds asks for what no event may change, and for the bounds that hold of what it may.
func checkBounds(t *testing.T, what string, ahead, got impl.World) {
	t.Helper()
	if got.Fetch.Name != ahead.Fetch.Name || got.Fetch.Store.Room != ahead.Fetch.Store.Room || len(got.Up) != len(ahead.Up) || got.Fetch.Now < ahead.Fetch.Now {
		t.Errorf("%s of %s: another world: %s", what, shortWorld(ahead), shortWorld(got))
	}
	if bytesOf(got.Fetch.Store) > got.Fetch.Store.Room {
		t.Errorf("%s of %s: more bytes than the room: %s", what, shortWorld(ahead), shortWorld(got))
	}
	// Each lie counts once, so all that was wasted since is told by the peers' lies.
	if got.Wasted-ahead.Wasted != liesOf(got)-liesOf(ahead) && got.Wasted < math.MaxInt {
		t.Errorf("%s of %s: %d wasted, and %d lies: %s", what, shortWorld(ahead), got.Wasted-ahead.Wasted, liesOf(got)-liesOf(ahead), shortWorld(got))
	}
	if most := 3 * len(got.Up); ahead.Wasted == liesOf(ahead) && got.Wasted > most {
		t.Errorf("%s of %s: %d wasted, of at most %d", what, shortWorld(ahead), got.Wasted, most)
	}
}

func liesOf(w impl.World) int {
	lies := 0
	for _, p := range w.Fetch.Peers {
		lies += p.Lies
	}
	return lies
}

func checkNewWorld(t *testing.T, f impl.Fetch, stores []impl.Store) impl.World {
	t.Helper()
	got, want := impl.NewWorld(f, stores), wantNewWorld(f, stores)
	if !sameWorld(got, want) {
		t.Errorf("NewWorld of %s, %d stores:\n%s,\nnot %s", shortFetch(f), len(stores), shortWorld(got), shortWorld(want))
	}
	if begun := len(want.Up) > 0; impl.ValidWorld(got) != begun || wantWorld(got) != begun {
		t.Errorf("NewWorld of %s, %d stores: valid %v: %s", shortFetch(f), len(stores), !begun, shortWorld(got))
	}
	return got
}

func checkDo(t *testing.T, w impl.World, e impl.Event) impl.World {
	t.Helper()
	got := impl.Do(w, e)
	checkMade(t, shortEvent(e), w, got, wantDo(w, e))
	return got
}

// do lets an event happen that holds no message.
func do(t *testing.T, w impl.World, kind int, numbers ...int) impl.World {
	t.Helper()
	both := append(numbers, 0, 0)
	return checkDo(t, w, impl.Event{Kind: kind, A: both[0], B: both[1]})
}

func say(t *testing.T, w impl.World, m impl.Message) impl.World {
	t.Helper()
	return checkDo(t, w, impl.Event{Kind: impl.EvSay, Message: m})
}

func checkCalm(t *testing.T, w impl.World, rounds int) impl.World {
	t.Helper()
	got := impl.Calm(w, rounds)
	checkMade(t, fmt.Sprintf("Calm of %d rounds", rounds), w, got, wantCalm(w, rounds, wantDo))
	return got
}

// changesNothing asks that a world stays as it is.
func changesNothing(t *testing.T, what string, w impl.World, e impl.Event) {
	t.Helper()
	if got := checkDo(t, w, e); !sameWorld(got, w) {
		t.Errorf("%s: %s, then %s", what, shortWorld(w), shortWorld(got))
	}
}

// worldOf is a world of a fetch of this name, into an empty store with this room, from peers with these stores.
func worldOf(t *testing.T, name string, room int, stores ...impl.Store) impl.World {
	t.Helper()
	w := checkNewWorld(t, checkNew(t, impl.Store{Width: len(name), Room: room}, name, len(stores)), stores)
	if len(w.Up) != len(stores) || len(w.Up) == 0 {
		t.Fatalf("no world of %d stores: %s", len(stores), shortWorld(w))
	}
	return w
}

// flying is a world with this flight.
func flying(w impl.World, flight ...impl.Message) impl.World {
	w = copyWorld(w)
	w.Flight = flight
	return w
}

func TestNewWorlds(t *testing.T) {
	for width := 1; width <= impl.MaxWidth; width++ {
		for peers := 1; peers <= impl.MaxPeers; peers++ {
			f := checkNew(t, storeOf(t, width, 100, "here"), strings.Repeat("n", width), peers)
			f.Now = 9
			f.Peers[peers-1] = impl.Peer{Lies: 2, Wait: 3, Last: 8, Asked: f.Name, Nots: []string{f.Name}}
			stores := []impl.Store{}
			for i := range peers {
				stores = append(stores, withPins(storeOf(t, width, 50+i, "there "+lowLetters[:i+1]), strings.Repeat("p", width)))
			}
			w := checkNewWorld(t, f, stores)
			if !sameFetch(w.Fetch, f) || !slices.EqualFunc(w.Stores, stores, sameStore) || len(w.Flight) != 0 || w.Wasted != 0 {
				t.Errorf("width %d: %s", width, shortWorld(w))
			}
			if len(w.Up) != peers || slices.Contains(w.Up, false) {
				t.Errorf("width %d, %d peers: up %v", width, peers, w.Up)
			}
		}
	}
}

// TestCalmToTheEnd counts the rounds: one for the list, and then one for as many pieces as there are peers.
func TestCalmToTheEnd(t *testing.T) {
	for width := 3; width <= impl.MaxWidth; width++ {
		for i, text := range someThings() {
			parts := partsOf(text, width)
			for peers := 1; peers <= impl.MaxPeers; peers++ {
				if (i+peers)%3 > 0 && width < impl.MaxWidth {
					continue
				}
				w := worldOf(t, impl.Name(text, width), 3000, somePeers(t, peers, width, parts...)...)
				rounds := 1 + (len(parts)-1+peers-1)/peers
				what := fmt.Sprintf("width %d, thing %d, %d peers, %d rounds", width, i, peers, rounds)
				notDone(t, what, checkCalm(t, w, rounds-1).Fetch)
				end := checkCalm(t, w, rounds)
				doneWith(t, what, end.Fetch, text)
				if len(end.Flight) != 0 || end.Fetch.Now != rounds || end.Wasted != 0 || end.Fetch.Full {
					t.Errorf("%s: %s", what, shortWorld(end))
				}
				holdsJust(t, what, end.Fetch.Store, parts...)
				// Nobody is asked any more, and time goes by.
				later := checkCalm(t, end, 3)
				if later.Fetch.Now != rounds+3 || !sameStore(later.Fetch.Store, end.Fetch.Store) {
					t.Errorf("%s, and three: %s", what, shortWorld(later))
				}
			}
		}
	}
}

// TestCalmOfLimits fetches things of MaxThing bytes, one of MaxPieces pieces among them, from one peer and from MaxPeers.
func TestCalmOfLimits(t *testing.T) {
	for _, text := range []string{greatThing(), drawn(9, impl.MaxThing, allBytes()), strings.Repeat(block(4), impl.MaxPieces)} {
		parts := partsOf(text, 8)
		for _, peers := range []int{1, impl.MaxPeers} {
			w := worldOf(t, impl.Name(text, 8), wholeSize(text, 8), somePeers(t, peers, 8, parts...)...)
			rounds := 1 + (len(parts)-1+peers-1)/peers
			notDone(t, "too soon", impl.Calm(w, rounds-1).Fetch)
			end := impl.Calm(w, rounds)
			doneWith(t, "a great thing", end.Fetch, text)
			if !impl.ValidWorld(end) || len(end.Flight) != 0 || end.Wasted != 0 || end.Fetch.Full || bytesOf(end.Fetch.Store) != end.Fetch.Store.Room {
				t.Errorf("%d peers: %s", peers, shortWorld(end))
			}
		}
	}
}

// greatThing has MaxThing bytes in MaxPieces different pieces.
func greatThing() string {
	text := ""
	for i := range impl.MaxPieces {
		text += block(i + 1)
	}
	return text
}

// TestCalmToFull: with one byte too few the last piece has no room, whoever brings it.
func TestCalmToFull(t *testing.T) {
	text := drawn(6, 400, lowLetters)
	for _, peers := range []int{1, 2, 5} {
		for _, room := range []int{0, 7, wholeSize(text, 8) / 2, wholeSize(text, 8) - 1} {
			w := worldOf(t, impl.Name(text, 8), room, somePeers(t, peers, 8, partsOf(text, 8)...)...)
			end := checkCalm(t, w, 60)
			notDone(t, "no room", end.Fetch)
			if !end.Fetch.Full || end.Wasted != 0 || len(end.Flight) != 0 || bytesOf(end.Fetch.Store) > room {
				t.Errorf("%d peers, room %d: %s", peers, room, shortWorld(end))
			}
		}
	}
}

// TestCalmWithPeersThatAreDown: who is down does not answer, and is asked again; who rises does.
func TestCalmWithPeersThatAreDown(t *testing.T) {
	text := drawn(5, 300, lowLetters)
	for up := 1; up <= impl.MaxPeers; up++ {
		w := worldOf(t, impl.Name(text, 8), 3000, somePeers(t, impl.MaxPeers, 8, partsOf(text, 8)...)...)
		for i := range impl.MaxPeers {
			w = do(t, w, impl.EvFall, i+1)
		}
		down := checkCalm(t, w, 40)
		notDone(t, "all are down", down.Fetch)
		if len(down.Fetch.Store.Items) != 0 || len(down.Flight) != 0 || down.Fetch.Now != 40 {
			t.Errorf("all are down: %s", shortWorld(down))
		}
		for _, w := range []impl.World{w, down} {
			risen := do(t, w, impl.EvRise, up)
			doneWith(t, fmt.Sprintf("peer %d is up", up), checkCalm(t, risen, 100).Fetch, text)
		}
	}
}

// TestCalmFromPeersThatHaveParts: each part is with one peer alone, and the others say that they have it not.
func TestCalmFromPeersThatHaveParts(t *testing.T) {
	text := drawn(3, 400, lowLetters)
	for width := 3; width <= impl.MaxWidth; width++ {
		parts := partsOf(text, width)
		stores := slices.Repeat([]impl.Store{holding(t, width, "another thing")}, 4)
		for i, part := range parts {
			stores[i*7%4] = withTexts(stores[i*7%4], part)
		}
		w := worldOf(t, impl.Name(text, width), 2000, stores...)
		end := checkCalm(t, w, 150)
		doneWith(t, fmt.Sprintf("width %d", width), end.Fetch, text)
		if end.Wasted != 0 || !slices.EqualFunc(end.Stores, stores, sameStore) {
			t.Errorf("width %d: %s", width, shortWorld(end))
		}
		for i := range stores {
			stores[i] = without(stores[i], parts[len(parts)-1])
		}
		end = checkCalm(t, worldOf(t, impl.Name(text, width), 2000, stores...), 150)
		notDone(t, "a part is nowhere", end.Fetch)
		lacksJust(t, "a part is nowhere", end.Fetch.Store, end.Fetch.Name, impl.Sum(parts[len(parts)-1], width))
	}
}
