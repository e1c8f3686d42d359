package tests

import (
	"fmt"
	"slices"
	"testing"

	"loop.example/kilnpass/impl"
)

// worldRow is a world to which many things happen, one behind the other.
type worldRow struct {
	world  impl.World
	thing  string
	texts  []string // what peers say that lie: parts of the thing, of another one, and texts that have their sums
	counts map[string]int
}

// storeFor is the store of a peer; the draw tells which of the texts it has.
func storeFor(width int, draw byte, parts, others, clashes []string) impl.Store {
	s := impl.Store{Width: width, Room: 9000}
	switch draw % 8 {
	case 0:
		return putAll(s, others)
	case 1:
		return putAll(s, parts[:len(parts)/2+1])
	case 2:
		return putAll(s, parts[len(parts)/2:])
	case 3:
		return putAll(putAll(s, clashes), parts)
	case 4:
		return putAll(putAll(s, parts[:1]), clashes)
	case 5:
		return putAll(s, []string{"nothing of it"})
	}
	return putAll(s, parts)
}

// worldRowOf is a row that these bytes tell.
func worldRowOf(t *testing.T, seed, width int, counts map[string]int) *worldRow {
	t.Helper()
	choices := drawn(seed, 16, allBytes())
	r := &worldRow{thing: drawn(seed, 10+int(choices[0])%140, lowLetters), counts: counts}
	parts, others, clashes := partsOf(r.thing, width), partsOf("another thing", width), []string{}
	if width == 1 {
		others = partsOf(sameName(t, r.thing, width), width)
		for _, part := range parts {
			clashes = append(clashes, sameSum(t, part, width))
		}
	}
	r.texts = slices.Concat(parts, others, clashes, []string{"lie", "", "size 0\n"})
	s := impl.Store{Width: width, Room: wholeSize(r.thing, width) * (140 + int(choices[1])) / 256}
	s = putAll(s, []string{drawn(seed, 5, lowLetters), drawn(seed+1, 8, lowLetters), drawn(seed+2, 11, lowLetters)}[:choices[2]%4])
	stores := []impl.Store{}
	for i := range 1 + int(choices[3])%impl.MaxPeers {
		stores = append(stores, storeFor(width, choices[4+i], parts, others, clashes))
	}
	r.world = checkNewWorld(t, checkNew(t, s, impl.Name(r.thing, width), len(stores)), stores)
	return r
}

// said is what a peer says in this world; most of it is about what it is asked for.
func (r *worldRow) said(draw string) impl.Message {
	from := 1 + int(draw[0])%len(r.world.Up)
	m := impl.Message{From: from, Sum: r.world.Fetch.Peers[from-1].Asked, Has: draw[1]%8 > 0}
	text := r.texts[int(draw[2])%len(r.texts)]
	switch draw[1] / 8 % 4 {
	case 0:
		m.Sum, m.Text = impl.Sum(text, r.world.Fetch.Store.Width), text
	case 1:
		m.Text = text
	default:
		for _, text := range r.texts {
			if impl.Sum(text, r.world.Fetch.Store.Width) == m.Sum {
				m.Text = text
			}
		}
	}
	return m
}

// event is the next thing that happens, drawn by four bytes.
func (r *worldRow) event(draw string) impl.Event {
	message, peer := int(draw[1])%(len(r.world.Flight)+1), int(draw[1])%(len(r.world.Up)+2)
	switch kind := draw[0] % 64; {
	case kind < 14:
		return impl.Event{Kind: impl.EvTick}
	case kind < 36:
		return impl.Event{Kind: impl.EvBring, A: message}
	case kind < 40:
		return impl.Event{Kind: impl.EvDouble, A: message}
	case kind < 43:
		return impl.Event{Kind: impl.EvLose, A: message}
	case kind < 54:
		return impl.Event{Kind: impl.EvSay, Message: r.said(draw[1:])}
	case kind < 56:
		return impl.Event{Kind: impl.EvFall, A: peer}
	case kind < 61:
		return impl.Event{Kind: impl.EvRise, A: peer}
	case kind < 63:
		return impl.Event{Kind: impl.EvDrop, A: peer, B: int(draw[2]) % 20}
	}
	return impl.Event{Kind: int(draw[1]) - 128, A: message, B: int(draw[2]), Message: r.said(draw[1:])}
}

// step lets one event happen, and counts what came of it.
func (r *worldRow) step(t *testing.T, draw string) {
	t.Helper()
	ahead := r.world
	e := r.event(draw)
	r.world = checkDo(t, ahead, e)
	count := func(what string, so bool) {
		if so {
			r.counts[what]++
		}
	}
	count(fmt.Sprintf("kind %d", e.Kind), !sameWorld(r.world, ahead))
	count("nothing", sameWorld(r.world, ahead))
	count("wasted", r.world.Wasted > ahead.Wasted)
	count("put", len(r.world.Fetch.Store.Items) > len(ahead.Fetch.Store.Items))
	count("full", r.world.Fetch.Full && !ahead.Fetch.Full)
	done, another := checkWhole(t, r.world.Fetch, r.thing)
	count("done", done && !another)
	count("another", another)
}

// isLively says whether the promise of liveness speaks of this peer, and gives the thing that it has.
func isLively(w impl.World, peer int) (string, bool) {
	p := w.Fetch.Peers[peer-1]
	if !w.Up[peer-1] || p.Lies >= 3 || len(p.Nots) > 0 || w.Fetch.Now > 1000000-3000 {
		return "", false
	}
	if slices.ContainsFunc(w.Flight, func(m impl.Message) bool { return m.From == peer }) {
		return "", false
	}
	return wantLoad(w.Stores[peer-1], w.Fetch.Name)
}

// haveClash says whether two different texts with one sum are among the items of two stores of one width.
func haveClash(a, b impl.Store) bool {
	for _, item := range a.Items {
		if at := placeOf(b, impl.Sum(item.Text, a.Width)); at >= 0 && b.Items[at].Text != item.Text {
			return true
		}
	}
	return false
}

// showsClash says whether, in so many calm rounds, the fetch's store and the peer's come to hold two texts with one sum: ahead of
// a message that is brought, or, as the last one may be the one that brings it, behind it.
func showsClash(w impl.World, rounds, peer int) bool {
	shown := false
	wantCalm(w, rounds, func(w impl.World, e impl.Event) impl.World {
		if shown {
			return w
		}
		next := impl.Do(w, e)
		shown = haveClash(w.Fetch.Store, w.Stores[peer-1]) || haveClash(next.Fetch.Store, next.Stores[peer-1])
		return next
	})
	return shown
}

// checkLively asks for the promise of liveness of each peer that it speaks of, and counts how it is kept.
func checkLively(t *testing.T, w impl.World, counts map[string]int) {
	t.Helper()
	for peer := 1; peer <= len(w.Up); peer++ {
		thing, so := isLively(w, peer)
		if !so {
			continue
		}
		rounds := 200 + 2*(len(wantPieces(thing))+1)
		end := impl.Calm(w, rounds)
		_, done := checkDone(t, end.Fetch)
		switch {
		case done:
			counts["lively, done"]++
		case end.Fetch.Full:
			counts["lively, full"]++
		case showsClash(w, rounds, peer):
			counts["lively, clash"]++
		default:
			t.Errorf("peer %d has it, and in %d rounds it is not fetched: %s, then %s", peer, rounds, shortWorld(w), shortWorld(end))
		}
	}
}

// checkRounds asks that some rounds, and then some more, are all of them at once.
func checkRounds(t *testing.T, w impl.World, a, b int) {
	t.Helper()
	both := impl.Calm(w, a+b)
	if one := impl.Calm(impl.Calm(w, a), b); !sameWorld(one, both) {
		t.Errorf("%d and %d rounds of %s:\n%s,\nnot %s", a, b, shortWorld(w), shortWorld(one), shortWorld(both))
	}
}

func TestManyThingsHappenToWorlds(t *testing.T) {
	for _, width := range []int{1, 2, 3, 8} {
		counts := map[string]int{}
		for seed := range 200 {
			r := worldRowOf(t, seed+1000*width, width, counts)
			draws := drawn(seed+1000*width+500, 4*100, allBytes())
			for at := 0; at < len(draws); at += 4 {
				r.step(t, draws[at:at+4])
				if at%16 == 0 {
					checkLively(t, r.world, counts)
					checkRounds(t, r.world, int(draws[at])%30, int(draws[at+1])%30)
				}
				if draws[at+3] < 3 {
					r.world = checkCalm(t, r.world, int(draws[at+2])%4)
				}
				if t.Failed() {
					t.Fatalf("width %d, seed %d, step %d", width, seed, at/4)
				}
			}
		}
		wanted := []string{"kind 1", "kind 2", "kind 3", "kind 4", "kind 5", "kind 6", "kind 7", "kind 8", "nothing", "wasted", "put", "full", "done", "lively, done", "lively, full"}
		if width == 1 {
			wanted = append(wanted, "another", "lively, clash")
		}
		for _, what := range wanted {
			if counts[what] < 10 {
				t.Errorf("width %d: these rows ask for too little: %s %d times", width, what, counts[what])
			}
		}
	}
}
