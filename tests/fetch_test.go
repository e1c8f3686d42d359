package tests

import (
	"fmt"
	"slices"
	"strings"
	"testing"

	"loop.example/kilnpass/impl"
)

// wantPeer goes through what the document asks of a peer, word by word.
func wantPeer(p impl.Peer, now, width int) bool {
	if p.Lies < 0 || p.Lies > 3 || p.Wait < 0 || p.Wait > 5 || p.Last < -1 || p.Last > now || len(p.Nots) > 376 {
		return false
	}
	if p.Wait != 0 && len(p.Asked) != width || p.Wait == 0 && p.Asked != "" {
		return false
	}
	for i, not := range p.Nots {
		if len(not) != width || i > 0 && p.Nots[i-1] >= not {
			return false
		}
	}
	return true
}

func wantFetch(f impl.Fetch) bool {
	if !wantValid(f.Store) || !slices.Contains(f.Store.Pins, f.Name) || f.Now < 0 || f.Now > 1000000 || len(f.Peers) < 1 || len(f.Peers) > 5 {
		return false
	}
	for _, p := range f.Peers {
		if !wantPeer(p, f.Now, f.Store.Width) {
			return false
		}
	}
	return true
}

// copyFetch has lists of its own.
func copyFetch(f impl.Fetch) impl.Fetch {
	f.Store, f.Peers = copyStore(f.Store), slices.Clone(f.Peers)
	for i := range f.Peers {
		f.Peers[i].Nots = slices.Clone(f.Peers[i].Nots)
	}
	return f
}

func wantNew(s impl.Store, name string, peers int) impl.Fetch {
	pinned, code := wantPin(s, name)
	if code != 0 || peers < 1 || peers > 5 {
		return impl.Fetch{}
	}
	return impl.Fetch{Name: name, Store: pinned, Peers: slices.Repeat([]impl.Peer{{Last: -1}}, peers)}
}

// wantTick asks peer by peer, each time looking for who is next among those that were not looked at yet.
func wantTick(f impl.Fetch) (impl.Fetch, []impl.Message) {
	if !wantFetch(f) {
		return impl.Fetch{}, nil
	}
	f = copyFetch(f)
	if f.Now == 1000000 {
		return f, nil
	}
	f.Now++
	asked := []string{}
	for i := range f.Peers {
		if f.Peers[i].Wait > 0 {
			f.Peers[i].Wait--
		}
		if f.Peers[i].Wait == 0 {
			f.Peers[i].Asked = ""
		}
		asked = append(asked, f.Peers[i].Asked)
	}
	sent := []impl.Message{}
	lacks := wantLacks(f.Store, f.Name)
	looked := []int{}
	for at := nextOf(f, looked); at >= 0 && !f.Full; at = nextOf(f, looked) {
		looked = append(looked, at)
		for _, sum := range lacks {
			if !slices.Contains(asked, sum) && !slices.Contains(f.Peers[at].Nots, sum) {
				f.Peers[at].Asked, f.Peers[at].Wait, f.Peers[at].Last = sum, 5, f.Now
				asked = append(asked, sum)
				sent = append(sent, impl.Message{To: at + 1, Sum: sum})
				break
			}
		}
	}
	return f, sent
}

// nextOf is the place of the peer that is asked next, -1 if there is none.
func nextOf(f impl.Fetch, looked []int) int {
	next := -1
	for i, p := range f.Peers {
		if p.Wait == 0 && p.Lies < 3 && !slices.Contains(looked, i) && (next < 0 || p.Last < f.Peers[next].Last) {
			next = i
		}
	}
	return next
}

func wantTake(f impl.Fetch, m impl.Message) impl.Fetch {
	if !wantFetch(f) {
		return impl.Fetch{}
	}
	f = copyFetch(f)
	if m.To != 0 || m.From < 1 || m.From > len(f.Peers) {
		return f
	}
	p := &f.Peers[m.From-1]
	if p.Wait == 0 || p.Asked != m.Sum {
		return f
	}
	p.Wait, p.Asked = 0, ""
	if !m.Has {
		if !slices.Contains(p.Nots, m.Sum) && len(p.Nots)+1 <= 376 {
			p.Nots = append(p.Nots, m.Sum)
			slices.Sort(p.Nots)
		}
		return f
	}
	with, code := wantPut(f.Store, m.Text, f.Now)
	_, read := wantRead(m.Text, f.Store.Width)
	switch {
	case impl.Sum(m.Text, f.Store.Width) != m.Sum, m.Sum == f.Name && !read, code == 1, code == 2:
		if p.Lies < 3 {
			p.Lies++
		}
	case code == 3:
		f.Full = true
	default:
		f.Store = with
	}
	return f
}

func wantDone(f impl.Fetch) (string, bool) {
	if !wantFetch(f) {
		return "", false
	}
	return wantLoad(f.Store, f.Name)
}

func samePeer(a, b impl.Peer) bool {
	return a.Lies == b.Lies && a.Wait == b.Wait && a.Last == b.Last && a.Asked == b.Asked && slices.Equal(a.Nots, b.Nots)
}

func sameFetch(a, b impl.Fetch) bool {
	return a.Name == b.Name && a.Now == b.Now && a.Full == b.Full && sameStore(a.Store, b.Store) && slices.EqualFunc(a.Peers, b.Peers, samePeer)
}

// shortFetch tells a fetch in few words.
func shortFetch(f impl.Fetch) string {
	out := fmt.Sprintf("%x at %d, full %v, %s, %d peers:", f.Name, f.Now, f.Full, shortStore(f.Store), len(f.Peers))
	for _, p := range f.Peers {
		out += " " + shortPeer(p)
	}
	return out
}

func shortPeer(p impl.Peer) string {
	return fmt.Sprintf("[lies %d wait %d last %d asked %x nots %s]", p.Lies, p.Wait, p.Last, p.Asked, shortSums(p.Nots))
}

func shortMessages(messages ...impl.Message) string {
	out := fmt.Sprintf("%d messages:", len(messages))
	for _, m := range messages {
		out += fmt.Sprintf(" [%d to %d: %x %v, %d bytes %.20q]", m.From, m.To, m.Sum, m.Has, len(m.Text), m.Text)
	}
	return out
}

// checkHeld holds a fetch against the one that is wanted, and asks that one made of a valid one is valid, keeps its name, its
// room and what it needs.
func checkHeld(t *testing.T, what string, ahead, got, want impl.Fetch) {
	t.Helper()
	if !sameFetch(got, want) {
		t.Errorf("%s of %s:\n%s,\nnot %s", what, shortFetch(ahead), shortFetch(got), shortFetch(want))
	}
	if !wantFetch(ahead) {
		if !sameFetch(got, impl.Fetch{}) || impl.ValidFetch(ahead) {
			t.Errorf("%s of what is not valid: %s, valid %v", what, shortFetch(got), impl.ValidFetch(ahead))
		}
		return
	}
	if !impl.ValidFetch(got) || !wantFetch(got) {
		t.Errorf("%s of %s: not valid: %s", what, shortFetch(ahead), shortFetch(got))
	}
	if got.Name != ahead.Name || got.Store.Room != ahead.Store.Room || len(got.Peers) != len(ahead.Peers) || !slices.Equal(got.Store.Pins, ahead.Store.Pins) {
		t.Errorf("%s of %s: another fetch: %s", what, shortFetch(ahead), shortFetch(got))
	}
	checkKept(t, what, ahead.Store, got.Store)
}

func checkNew(t *testing.T, s impl.Store, name string, peers int) impl.Fetch {
	t.Helper()
	got, want := impl.NewFetch(s, name, peers), wantNew(s, name, peers)
	if !sameFetch(got, want) {
		t.Errorf("NewFetch of %s, %x, %d peers:\n%s,\nnot %s", shortStore(s), name, peers, shortFetch(got), shortFetch(want))
	}
	if begun := len(want.Peers) > 0; impl.ValidFetch(got) != begun || wantFetch(got) != begun {
		t.Errorf("NewFetch of %s, %x, %d peers: valid %v: %s", shortStore(s), name, peers, !begun, shortFetch(got))
	}
	return got
}

func checkTick(t *testing.T, f impl.Fetch) (impl.Fetch, []impl.Message) {
	t.Helper()
	got, sent := impl.FetchTick(f)
	want, wantSent := wantTick(f)
	checkHeld(t, "FetchTick", f, got, want)
	if !slices.Equal(sent, wantSent) {
		t.Errorf("FetchTick of %s: sent %s,\nnot %s", shortFetch(f), shortMessages(sent...), shortMessages(wantSent...))
	}
	return got, sent
}

func checkTake(t *testing.T, f impl.Fetch, m impl.Message) impl.Fetch {
	t.Helper()
	got := impl.FetchTake(f, m)
	checkHeld(t, "FetchTake "+shortMessages(m), f, got, wantTake(f, m))
	return got
}

// checkDone asks also for the promise: what is given has the name that was asked for.
func checkDone(t *testing.T, f impl.Fetch) (string, bool) {
	t.Helper()
	text, ok := impl.FetchDone(f)
	want, wantOk := wantDone(f)
	if text != want || ok != wantOk {
		t.Errorf("FetchDone of %s: %.20q %v, not %.20q %v", shortFetch(f), text, ok, want, wantOk)
	}
	if ok && impl.Name(text, f.Store.Width) != f.Name {
		t.Errorf("FetchDone of %s: %.20q has another name", shortFetch(f), text)
	}
	return text, ok
}

// doneWith asks for this text.
func doneWith(t *testing.T, what string, f impl.Fetch, want string) {
	t.Helper()
	if text, ok := checkDone(t, f); !ok || text != want {
		t.Errorf("%s: %d bytes %.20q %v, not %d bytes %.20q", what, len(text), text, ok, len(want), want)
	}
}

func notDone(t *testing.T, what string, f impl.Fetch) {
	t.Helper()
	if text, ok := checkDone(t, f); ok || text != "" {
		t.Errorf("%s: %d bytes %.20q %v", what, len(text), text, ok)
	}
}

// answerOf is what a peer with this store says when it is asked, and tells the truth.
func answerOf(s impl.Store, asked impl.Message) impl.Message {
	m := impl.Message{From: asked.To, Sum: asked.Sum}
	if at := placeOf(s, asked.Sum); at >= 0 {
		m.Has, m.Text = true, s.Items[at].Text
	}
	return m
}

// isIdle says whether no peer waits.
func isIdle(f impl.Fetch) bool {
	return !slices.ContainsFunc(f.Peers, func(p impl.Peer) bool { return p.Wait > 0 })
}

// fetchFrom ticks, and lets peers with these stores answer each time, until nobody is asked any more. It gives how many were.
func fetchFrom(t *testing.T, f impl.Fetch, stores []impl.Store) (impl.Fetch, int) {
	t.Helper()
	asked := 0
	for range 2000 {
		next, sent := checkTick(t, f)
		f = next
		if len(sent) == 0 && isIdle(f) {
			return f, asked
		}
		asked += len(sent)
		for _, m := range sent {
			f = checkTake(t, f, answerOf(stores[m.To-1], m))
		}
		// One fault is told once, not at each tick behind it.
		if t.Failed() {
			t.FailNow()
		}
	}
	t.Fatalf("no end: %s", shortFetch(f))
	return f, asked
}

// partsOf are the texts of a thing in a store, each once: its list and its pieces.
func partsOf(text string, width int) []string {
	parts := []string{wantForm(wantList(text, width))}
	for _, p := range wantPieces(text) {
		if !slices.Contains(parts, p) {
			parts = append(parts, p)
		}
	}
	return parts
}

// holding is a store with these texts and some room besides.
func holding(t *testing.T, width int, texts ...string) impl.Store {
	t.Helper()
	return withRoom(storeOf(t, width, impl.MaxRoom, texts...), 30000)
}

// somePeers are n stores that have these texts.
func somePeers(t *testing.T, n, width int, texts ...string) []impl.Store {
	t.Helper()
	return slices.Repeat([]impl.Store{holding(t, width, texts...)}, n)
}

// someThings are things of no piece, of one and of several, with one piece twice, too; their parts have different sums of 3
// bytes and more.
func someThings() []string {
	p, q := block(1), block(2)
	return []string{"", "a", "short", p, p + q, p + "end", p + q + p + p + "end", uncut(64, ""), uncut(200, ""), strings.Repeat("abcdefghij", 20), drawn(3, 400, lowLetters), drawn(4, 700, allBytes())}
}

func TestFetchToTheEnd(t *testing.T) {
	for width := 3; width <= impl.MaxWidth; width++ {
		for i, text := range someThings() {
			parts := partsOf(text, width)
			for peers := 1; peers <= impl.MaxPeers; peers++ {
				stores := somePeers(t, peers, width, parts...)
				// What is there ahead of it: nothing, the list, the first piece alone, all but the last, all.
				for _, there := range [][]string{nil, parts[:1], parts[1:min(2, len(parts))], parts[:len(parts)-1], parts} {
					if (i+peers+len(there))%3 > 0 && width < impl.MaxWidth {
						continue
					}
					f := checkNew(t, storeOf(t, width, 3000, there...), impl.Name(text, width), peers)
					if len(there) < len(parts) {
						notDone(t, "at the beginning", f)
					}
					f, asked := fetchFrom(t, f, stores)
					doneWith(t, fmt.Sprintf("width %d, thing %d, %d peers, %d parts there", width, i, peers, len(there)), f, text)
					if asked != len(parts)-len(there) {
						t.Errorf("width %d, thing %d, %d peers: %d are lacked, and %d asked for", width, i, peers, len(parts)-len(there), asked)
					}
					holdsJust(t, "the parts", f.Store, parts...)
				}
			}
		}
	}
}

// TestFetchOfLimits fetches things of MaxThing bytes, one of them of MaxPieces pieces.
func TestFetchOfLimits(t *testing.T) {
	blocks := greatThing()
	for _, text := range []string{blocks, drawn(9, impl.MaxThing, allBytes()), strings.Repeat(block(4), impl.MaxPieces)} {
		if len(text) != impl.MaxThing {
			t.Fatalf("%d bytes", len(text))
		}
		parts := partsOf(text, 8)
		f := checkNew(t, impl.Store{Width: 8, Room: wholeSize(text, 8)}, impl.Name(text, 8), impl.MaxPeers)
		f, asked := fetchFrom(t, f, somePeers(t, impl.MaxPeers, 8, parts...))
		doneWith(t, "a great thing", f, text)
		if asked != len(parts) || f.Full {
			t.Errorf("%d asked for, of %d, full %v", asked, len(parts), f.Full)
		}
	}
	if len(wantPieces(blocks)) != impl.MaxPieces || len(partsOf(blocks, 8)) != impl.MaxPieces+1 {
		t.Errorf("the thing has %d pieces, and %d different parts", len(wantPieces(blocks)), len(partsOf(blocks, 8)))
	}
}

// TestFetchFromPeersThatHaveParts: each part is with one peer alone, and the others say that they have it not.
func TestFetchFromPeersThatHaveParts(t *testing.T) {
	text := drawn(3, 400, lowLetters)
	for width := 3; width <= impl.MaxWidth; width++ {
		parts := partsOf(text, width)
		for peers := 1; peers <= impl.MaxPeers; peers++ {
			stores := make([]impl.Store, peers)
			for i := range stores {
				stores[i] = holding(t, width, "another thing")
			}
			for i, part := range parts {
				stores[i*7%peers] = withTexts(stores[i*7%peers], part)
			}
			f, asked := fetchFrom(t, checkNew(t, impl.Store{Width: width, Room: 2000}, impl.Name(text, width), peers), stores)
			doneWith(t, fmt.Sprintf("width %d, %d peers", width, peers), f, text)
			if asked < len(parts) || asked > len(parts)*peers {
				t.Errorf("width %d, %d peers: %d are asked for", width, peers, asked)
			}
			// One part that nobody has, and all end by having said so.
			last := parts[len(parts)-1]
			for i := range stores {
				stores[i] = without(stores[i], last)
			}
			f, _ = fetchFrom(t, checkNew(t, impl.Store{Width: width, Room: 2000}, impl.Name(text, width), peers), stores)
			notDone(t, "a part is nowhere", f)
			lacksJust(t, "a part is nowhere", f.Store, f.Name, impl.Sum(last, width))
			for i, p := range f.Peers {
				if !slices.Contains(p.Nots, impl.Sum(last, width)) || p.Lies != 0 {
					t.Errorf("peer %d of %d: nots %s", i+1, peers, shortSums(p.Nots))
				}
			}
		}
	}
}

// TestFetchFromOneThatTellsTheTruth: the others lie, each in a way of its own, or do not answer.
func TestFetchFromOneThatTellsTheTruth(t *testing.T) {
	text := drawn(5, 300, lowLetters)
	for width := 3; width <= impl.MaxWidth; width++ {
		parts := partsOf(text, width)
		for honest := 1; honest <= impl.MaxPeers; honest++ {
			f := checkNew(t, impl.Store{Width: width, Room: 2000}, impl.Name(text, width), impl.MaxPeers)
			s := holding(t, width, parts...)
			for range 100 {
				next, sent := checkTick(t, f)
				f = next
				for _, m := range sent {
					said := answerOf(s, m)
					if m.To != honest {
						said = [...]impl.Message{
							{From: m.To, Sum: m.Sum, Has: true, Text: said.Text + "X"},
							{From: m.To, Sum: m.Sum},
							{From: m.To, Sum: impl.Sum("lie", width), Has: true, Text: "lie"},
							{From: m.To, Sum: m.Sum, Has: true},
						}[(m.To+width)%4]
					}
					f = checkTake(t, f, said)
				}
			}
			doneWith(t, fmt.Sprintf("width %d, peer %d tells the truth", width, honest), f, text)
			if f.Peers[honest-1].Lies != 0 || f.Full {
				t.Errorf("width %d, peer %d: %s", width, honest, shortFetch(f))
			}
		}
	}
}

// lackingSix is a fetch whose store has a list of six texts and none of them: it lacks their sums, in this order.
func lackingSix(t *testing.T, peers int) (impl.Fetch, []string) {
	t.Helper()
	texts := []string{"text zero", "text one", "text two", "text three", "text four", "text five"}
	form := formOf(8, texts...)
	f := checkNew(t, storeOf(t, 8, 1000, form, "another"), impl.Sum(form, 8), peers)
	f.Now = 40
	return f, listOf(texts, 8).Sums
}

// asks asks for just these questions, each a peer and the place of the sum.
func asks(t *testing.T, what string, f impl.Fetch, sums []string, want ...[2]int) impl.Fetch {
	t.Helper()
	got, sent := checkTick(t, f)
	messages := []impl.Message{}
	for _, w := range want {
		messages = append(messages, impl.Message{To: w[0], Sum: sums[w[1]]})
		if p := got.Peers[w[0]-1]; p.Asked != sums[w[1]] || p.Wait != impl.AskTicks || p.Last != f.Now+1 {
			t.Errorf("%s: peer %d is %s", what, w[0], shortPeer(p))
		}
	}
	if !slices.Equal(sent, messages) {
		t.Errorf("%s: %s,\nnot %s", what, shortMessages(sent...), shortMessages(messages...))
	}
	return got
}

// nots are sums as Nots.
func nots(sums ...string) []string {
	return slices.Sorted(slices.Values(sums))
}

func TestWhoIsAskedFirst(t *testing.T) {
	_, s := lackingSix(t, 5)
	all := nots(s...)
	never := impl.Peer{Last: -1}
	for what, c := range map[string]struct {
		peers []impl.Peer
		want  [][2]int
	}{
		"none was asked ever":             {[]impl.Peer{never, never, never, never, never}, [][2]int{{1, 0}, {2, 1}, {3, 2}, {4, 3}, {5, 4}}},
		"one peer":                        {[]impl.Peer{{Last: 40}}, [][2]int{{1, 0}}},
		"the least Last":                  {[]impl.Peer{{Last: 4}, {Last: 2}, {Last: 3}, {Last: 2}, {Last: 1}}, [][2]int{{5, 0}, {2, 1}, {4, 2}, {3, 3}, {1, 4}}},
		"one Last":                        {[]impl.Peer{{Last: 9}, {Last: 9}, {Last: 9}, {Last: 9}}, [][2]int{{1, 0}, {2, 1}, {3, 2}, {4, 3}}},
		"never, and at 0":                 {[]impl.Peer{{Last: 0}, never, {Last: 0}, never}, [][2]int{{2, 0}, {4, 1}, {1, 2}, {3, 3}}},
		"down from the last number":       {[]impl.Peer{{Last: 40}, {Last: 39}, {Last: 38}, {Last: 37}, {Last: 36}}, [][2]int{{5, 0}, {4, 1}, {3, 2}, {2, 3}, {1, 4}}},
		"as many decimals do not count":   {[]impl.Peer{{Last: 10}, {Last: 9}}, [][2]int{{2, 0}, {1, 1}}},
		"who waits is not asked":          {[]impl.Peer{{Last: 39, Wait: 5, Asked: s[1]}, never, {Last: 38, Wait: 2, Asked: s[2]}, never}, [][2]int{{2, 0}, {4, 3}}},
		"all wait":                        {[]impl.Peer{{Wait: 2, Asked: s[0]}, {Wait: 3, Asked: s[1]}, {Wait: 5, Asked: s[2]}}, nil},
		"waits no more":                   {[]impl.Peer{{Last: 35, Wait: 1, Asked: s[0]}}, [][2]int{{1, 0}}},
		"its sum is free, for the first":  {[]impl.Peer{{Last: 35, Wait: 1, Asked: s[0]}, {Last: 3}, {Last: 36, Wait: 2, Asked: s[1]}}, [][2]int{{2, 0}, {1, 2}}},
		"waits for the last sum":          {[]impl.Peer{{Last: 35, Wait: 2, Asked: s[5]}, never, never, never, never}, [][2]int{{2, 0}, {3, 1}, {4, 2}, {5, 3}}},
		"two wait for one sum":            {[]impl.Peer{{Wait: 2, Asked: s[0]}, {Wait: 5, Asked: s[0]}, never}, [][2]int{{3, 1}}},
		"one of two waits no more":        {[]impl.Peer{{Wait: 1, Asked: s[0]}, {Wait: 2, Asked: s[0]}, never}, [][2]int{{3, 1}, {1, 2}}},
		"waits for what is not lacked":    {[]impl.Peer{{Wait: 4, Asked: "12345678"}, never}, [][2]int{{2, 0}}},
		"MaxLies":                         {[]impl.Peer{{Lies: 3, Last: -1}, {Lies: 2, Last: 3}, {Lies: 1, Last: 2}, {Lies: 3, Last: -1}, {Last: 1}}, [][2]int{{5, 0}, {3, 1}, {2, 2}}},
		"all have lied too often":         {[]impl.Peer{{Lies: 3, Last: -1}, {Lies: 3, Last: 3}}, nil},
		"waits, and has lied too often":   {[]impl.Peer{{Lies: 3, Wait: 3, Asked: s[0]}, never}, [][2]int{{2, 1}}},
		"lied too often, waits no more":   {[]impl.Peer{{Lies: 3, Wait: 1, Asked: s[0]}, never}, [][2]int{{2, 0}}},
		"Nots":                            {[]impl.Peer{{Last: -1, Nots: nots(s[0])}, never, never}, [][2]int{{1, 1}, {2, 0}, {3, 2}}},
		"some Nots":                       {[]impl.Peer{{Last: 1, Nots: nots(s[0], s[1], s[3])}, {Last: 2, Nots: nots(s[0], s[2])}, {Last: 3, Nots: nots(s[1], s[2], s[3], s[4])}}, [][2]int{{1, 2}, {2, 1}, {3, 0}}},
		"all Nots":                        {[]impl.Peer{{Last: 1, Nots: all}, {Last: 2}, {Last: 0, Nots: all}}, [][2]int{{2, 0}}},
		"Nots of all":                     {[]impl.Peer{{Last: 1, Nots: all}, {Last: 2, Nots: all}}, nil},
		"Nots but for one, and it is out": {[]impl.Peer{{Last: 1}, {Last: 2, Nots: nots(s[1:]...)}, {Last: 3}}, [][2]int{{1, 0}, {3, 1}}},
		"Nots but for one, and it is in":  {[]impl.Peer{{Last: 1, Nots: nots(s[0])}, {Last: 2, Nots: nots(s[1:]...)}, {Last: 3}}, [][2]int{{1, 1}, {2, 0}, {3, 2}}},
		"Nots of others":                  {[]impl.Peer{{Last: 1, Nots: []string{"\x00\x00\x00\x00\x00\x00\x00\x00", "12345678"}}, never}, [][2]int{{2, 0}, {1, 1}}},
		"Nots of one that waits":          {[]impl.Peer{{Last: 1, Wait: 3, Asked: s[0], Nots: nots(s[1], s[2])}, never}, [][2]int{{2, 1}}},
		"a Not that it is asked for":      {[]impl.Peer{{Last: 1, Wait: 1, Asked: s[0], Nots: nots(s[0])}, {Last: 2}}, [][2]int{{1, 1}, {2, 0}}},
	} {
		f, _ := lackingSix(t, len(c.peers))
		f.Peers = c.peers
		got := asks(t, what, f, s, c.want...)
		for i, p := range got.Peers {
			if ahead := c.peers[i]; p.Last != ahead.Last && p.Last != 41 || p.Lies != ahead.Lies || !slices.Equal(p.Nots, ahead.Nots) {
				t.Errorf("%s: peer %d was %s, and is %s", what, i+1, shortPeer(ahead), shortPeer(p))
			}
		}
		// A Full one asks for nothing, and time goes by in it all the same.
		f.Full = true
		asks(t, what+", full", f, s)
	}
}

// TestFewerSumsThanPeers: no two are asked for one sum, so some are left out.
func TestFewerSumsThanPeers(t *testing.T) {
	f, sums := lackingSix(t, 5)
	whole := f.Store
	for _, text := range []string{"text one", "text three", "text five", "text zero"} {
		f.Store = withTexts(f.Store, text)
	}
	f = asks(t, "two sums", f, sums, [2]int{1, 2}, [2]int{2, 4})
	f = asks(t, "both asked for", f, sums)
	f = checkTake(t, f, impl.Message{From: 1, Sum: sums[2]})
	f = asks(t, "one is free again", f, sums, [2]int{3, 2})
	f = checkTake(t, f, impl.Message{From: 2, Sum: sums[4], Has: true, Text: "text four"})
	f = asks(t, "one is there", f, sums)
	f = checkTake(t, f, impl.Message{From: 3, Sum: sums[2], Has: true, Text: "text two"})
	f = asks(t, "nothing is lacked", f, sums)
	// The list is no thing's: all that it names is there, and nothing is done.
	notDone(t, "no thing has this list", f)
	// Without its list, the name alone is lacked, whatever pieces are there.
	f, _ = lackingSix(t, 4)
	f.Store = without(withTexts(whole, "text one"), formOf(8, "text zero", "text one", "text two", "text three", "text four", "text five"))
	asks(t, "the name alone", f, []string{f.Name}, [2]int{1, 0})
	f.Peers[0].Nots = []string{f.Name}
	f.Peers[1].Lies = 3
	f.Peers[2].Last = 7
	asks(t, "the name, of the one that may have it", f, []string{f.Name}, [2]int{4, 0})
}

// TestSumTwiceInList: it is asked for once.
func TestSumTwiceInList(t *testing.T) {
	form := formOf(8, "text one", "text two", "text one", "text three", "text two", "text one")
	f := checkNew(t, storeOf(t, 8, 1000, form), impl.Sum(form, 8), 5)
	sums := listOf([]string{"text one", "text two", "text three"}, 8).Sums
	asks(t, "three sums in six places", f, sums, [2]int{1, 0}, [2]int{2, 1}, [2]int{3, 2})
}

func TestWaitsTickByTick(t *testing.T) {
	f, sums := lackingSix(t, 2)
	f = asks(t, "at 40", f, sums, [2]int{1, 0}, [2]int{2, 1})
	for wait := impl.AskTicks - 1; wait > 0; wait-- {
		f = asks(t, "they wait", f, sums)
		for i, p := range f.Peers {
			if p.Wait != wait || p.Asked != sums[i] || p.Last != 41 {
				t.Errorf("at %d: peer %d is %s", f.Now, i+1, shortPeer(p))
			}
		}
	}
	f.Peers[0].Lies, f.Peers[1].Nots = impl.MaxLies, nots(sums...)
	f = asks(t, "neither may be asked", f, sums)
	for i, p := range f.Peers {
		if p.Wait != 0 || p.Asked != "" || p.Last != 41 {
			t.Errorf("at %d: peer %d is %s", f.Now, i+1, shortPeer(p))
		}
	}
	if f.Now != 46 {
		t.Errorf("it is %d", f.Now)
	}
	f = asks(t, "one tick more", f, sums)
	// An answer that comes too late is of one that does not wait.
	late := checkTake(t, f, impl.Message{From: 1, Sum: sums[0], Has: true, Text: "text zero"})
	if !sameFetch(late, f) {
		t.Errorf("too late: %s", shortFetch(late))
	}
}

func TestFullFetchTicks(t *testing.T) {
	f, sums := lackingSix(t, 3)
	f.Full = true
	f.Peers[0] = impl.Peer{Last: 38, Wait: 2, Asked: sums[0], Lies: 1}
	f.Peers[1] = impl.Peer{Last: 37, Wait: 1, Asked: sums[1], Nots: []string{sums[2]}}
	f = asks(t, "full", f, sums)
	if !f.Full || f.Now != 41 || f.Peers[0].Wait != 1 || f.Peers[0].Asked != sums[0] || f.Peers[1].Wait != 0 || f.Peers[1].Asked != "" || f.Peers[2].Last != -1 {
		t.Errorf("%s", shortFetch(f))
	}
	// What was asked for ahead of it still comes, and has room or not.
	got := checkTake(t, f, impl.Message{From: 1, Sum: sums[0], Has: true, Text: "text zero"})
	if !got.Full || placeOf(got.Store, sums[0]) < 0 || got.Peers[0].Wait != 0 {
		t.Errorf("%s", shortFetch(got))
	}
	lied := checkTake(t, f, impl.Message{From: 1, Sum: sums[0], Has: true, Text: "lie"})
	if !lied.Full || lied.Peers[0].Lies != 2 {
		t.Errorf("%s", shortFetch(lied))
	}
	not := checkTake(t, f, impl.Message{From: 1, Sum: sums[0]})
	if !not.Full || len(not.Peers[0].Nots) != 1 {
		t.Errorf("%s", shortFetch(not))
	}
}

func TestFetchAtMaxTime(t *testing.T) {
	f, sums := lackingSix(t, 3)
	f.Now = impl.MaxTime - 1
	f.Peers[0] = impl.Peer{Last: impl.MaxTime - 1, Wait: 1, Asked: sums[0]}
	f.Peers[1] = impl.Peer{Last: impl.MaxTime - 2, Wait: 4, Asked: sums[1]}
	last := asks(t, "one ahead", f, sums, [2]int{3, 0}, [2]int{1, 2})
	if last.Now != impl.MaxTime {
		t.Errorf("it is %d", last.Now)
	}
	for range 7 {
		next, sent := checkTick(t, last)
		if !sameFetch(next, last) || len(sent) != 0 {
			t.Errorf("at MaxTime: %s, %s", shortFetch(next), shortMessages(sent...))
		}
	}
	// Nor does a Wait become less there, or who is free be asked.
	f.Now = impl.MaxTime
	for _, full := range []bool{false, true} {
		f.Full = full
		next, sent := checkTick(t, f)
		if !sameFetch(next, f) || len(sent) != 0 {
			t.Errorf("at MaxTime, full %v: %s, %s", full, shortFetch(next), shortMessages(sent...))
		}
	}
	f.Full = false
	// What comes then is taken.
	got := checkTake(t, f, impl.Message{From: 1, Sum: sums[0], Has: true, Text: "text zero"})
	if at := placeOf(got.Store, sums[0]); at < 0 || got.Store.Items[at].Used != impl.MaxTime || got.Now != impl.MaxTime {
		t.Errorf("%s", shortFetch(got))
	}
}

// TestFetchFromPeersThatAreDown: nobody answers, and each is asked again when its time is over.
func TestFetchFromPeersThatAreDown(t *testing.T) {
	for peers := 1; peers <= impl.MaxPeers; peers++ {
		f := checkNew(t, impl.Store{Width: 8, Room: 1000}, impl.Name("a thing", 8), peers)
		for tick := 1; tick <= 60; tick++ {
			if (tick-1)%impl.AskTicks == 0 {
				f = asks(t, "the next one", f, []string{f.Name}, [2]int{1 + (tick-1)/impl.AskTicks%peers, 0})
			} else {
				f = asks(t, "who was asked has time", f, []string{f.Name})
			}
		}
		notDone(t, "nobody answers", f)
	}
}

func TestEmptyThingIsFetched(t *testing.T) {
	for width := 1; width <= impl.MaxWidth; width++ {
		f := checkNew(t, impl.Store{Width: width, Room: 7}, impl.Name("", width), 1)
		f = asks(t, "its list", f, []string{f.Name}, [2]int{1, 0})
		f = checkTake(t, f, impl.Message{From: 1, Sum: f.Name, Has: true, Text: "size 0\n"})
		doneWith(t, "the empty thing", f, "")
		asks(t, "it is done", f, []string{f.Name})
	}
}
