package tests

import (
	"fmt"
	"slices"
	"strings"
	"testing"

	"loop.example/kilnpass/impl"
)

// sameName is a thing that differs from the given one and has its name, of that width, which is a small one.
func sameName(t *testing.T, text string, width int) string {
	t.Helper()
	name := impl.Name(text, width)
	for i := range 3000000 {
		if other := drawn(i, 20+i%60, lowLetters); other != text && impl.Name(other, width) == name {
			return other
		}
	}
	t.Fatalf("no other thing with the name of %.30q, width %d", text, width)
	return ""
}

// checkWhole asks for the promise of the whole: what is given is the thing, or shows two texts with one sum.
func checkWhole(t *testing.T, f impl.Fetch, thing string) (bool, bool) {
	t.Helper()
	text, ok := checkDone(t, f)
	if ok && text != thing {
		checkShown(t, thing, text, f.Store.Width)
	}
	return ok, ok && text != thing
}

// row is a fetch to which many things happen, one behind the other.
type row struct {
	fetch  impl.Fetch
	thing  string
	right  impl.Store // what a peer that tells the truth has
	other  impl.Store // what one has that has another thing of this name
	clash  []string   // texts that have the sum of a text of the thing
	counts map[string]int
}

// said is what a peer says to this question; the draw tells in which way.
func (r *row) said(from int, sum string, draw byte) impl.Message {
	asked := impl.Message{To: from, Sum: sum}
	m := impl.Message{From: from, Sum: sum, Has: true}
	switch draw % 16 {
	case 0:
		return impl.Message{From: from, Sum: sum}
	case 1:
		m.Text = "lie"
	case 2, 3, 4:
		return answerOf(r.other, asked)
	case 5:
		for _, text := range r.clash {
			if impl.Sum(text, r.fetch.Store.Width) == sum {
				m.Text = text
			}
		}
	case 6:
		m.Sum, m.Text = impl.Sum("another", r.fetch.Store.Width), "another"
	case 7:
		m = answerOf(r.right, asked)
		m.To = 1
	case 8:
		m = answerOf(r.right, asked)
		m.From = 1 + from%impl.MaxPeers
	case 9:
		m = answerOf(r.right, asked)
		m.Text += "X"
	default:
		return answerOf(r.right, asked)
	}
	return m
}

// step lets one thing happen, drawn by three bytes.
func (r *row) step(t *testing.T, draw string) {
	t.Helper()
	if draw[0]%3 == 0 {
		var sent []impl.Message
		r.fetch, sent = checkTick(t, r.fetch)
		r.counts["asked"] += len(sent)
		return
	}
	from := 1 + int(draw[1])%len(r.fetch.Peers)
	ahead := r.fetch
	r.fetch = checkTake(t, ahead, r.said(from, ahead.Peers[from-1].Asked, draw[2]))
	p, before := r.fetch.Peers[from-1], ahead.Peers[from-1]
	if p.Lies > before.Lies {
		r.counts["lies"]++
	}
	if len(p.Nots) > len(before.Nots) {
		r.counts["nots"]++
	}
	if len(r.fetch.Store.Items) > len(ahead.Store.Items) {
		r.counts["put"]++
	}
	if r.fetch.Full && !ahead.Full {
		r.counts["full"]++
	}
	if sameFetch(r.fetch, ahead) {
		r.counts["nothing"]++
	}
}

// putAll is the store with those of texts that Put takes.
func putAll(s impl.Store, texts []string) impl.Store {
	for i, text := range texts {
		if next, code := impl.Put(s, text, i); code == 0 {
			s = next
		}
	}
	return s
}

// rowOf is a row that these bytes tell.
func rowOf(t *testing.T, seed, width int, counts map[string]int) *row {
	t.Helper()
	choices := drawn(seed, 8, allBytes())
	r := &row{thing: drawn(seed, 10+int(choices[0])%140, lowLetters), counts: counts}
	other := "another thing"
	if width == 1 {
		other = sameName(t, r.thing, width)
	}
	r.right, r.other = putAll(impl.Store{Width: width, Room: 9000}, partsOf(r.thing, width)), putAll(impl.Store{Width: width, Room: 9000}, partsOf(other, width))
	if width == 1 {
		for _, part := range partsOf(r.thing, width) {
			r.clash = append(r.clash, sameSum(t, part, width))
		}
	}
	s := impl.Store{Width: width, Room: wholeSize(r.thing, width) * (160 + int(choices[1])) / 256}
	s = putAll(s, []string{drawn(seed, 5, lowLetters), drawn(seed+1, 8, lowLetters), drawn(seed+2, 11, lowLetters)}[:choices[2]%4])
	r.fetch = checkNew(t, s, impl.Name(r.thing, width), 1+int(choices[3])%impl.MaxPeers)
	return r
}

func TestManyThingsHappenToFetches(t *testing.T) {
	for _, width := range []int{1, 2, 3, 8} {
		counts := map[string]int{}
		for seed := range 150 {
			r := rowOf(t, seed, width, counts)
			draws := drawn(seed+1000, 3*80, allBytes())
			for at := 0; at < len(draws); at += 3 {
				r.step(t, draws[at:at+3])
				if done, another := checkWhole(t, r.fetch, r.thing); another {
					counts["another"]++
				} else if done {
					counts["done"]++
				}
				if t.Failed() {
					t.Fatalf("width %d, seed %d, step %d", width, seed, at/3)
				}
			}
		}
		wanted := []string{"asked", "lies", "nots", "put", "full", "nothing", "done"}
		if width == 1 {
			wanted = append(wanted, "another")
		}
		for _, what := range wanted {
			if counts[what] < 10 {
				t.Errorf("width %d: these rows ask for too little: %s %d times", width, what, counts[what])
			}
		}
	}
}

// TestFetchesOfAnyBytes: fetches that are drawn, and not led to, stay valid, too, and what is wrong in them is nothing.
func TestFetchesOfAnyBytes(t *testing.T) {
	valid := 0
	for seed := range 1000 {
		draw := drawn(seed, 64, allBytes())
		f, sums := lackingSix(t, 1+int(draw[0])%impl.MaxPeers)
		f.Now = int(draw[1]) % 8
		if draw[2]%8 == 0 {
			f.Now = impl.MaxTime - int(draw[2])%2
		}
		f.Full = draw[3]%5 == 0
		for i := range f.Peers {
			d := draw[4+8*i:]
			p := impl.Peer{Lies: int(d[0]) % 4, Last: int(d[1])%9 - 1, Wait: max(0, int(d[2])%11-5)}
			if p.Wait > 0 {
				p.Asked = append(sums, f.Name)[d[3]%7]
			}
			for bit, sum := range sums {
				if d[4]>>bit&1 == 1 && d[4] < 100 {
					p.Nots = append(p.Nots, sum)
				}
			}
			slices.Sort(p.Nots)
			f.Peers[i] = p
		}
		if wantFetch(f) {
			valid++
		}
		next, sent := checkTick(t, f)
		for _, g := range []impl.Fetch{f, next} {
			for from := 0; from <= len(f.Peers)+1; from++ {
				for _, sum := range append(slices.Clone(sums[:3]), f.Name) {
					for _, text := range []string{"text zero", "text one", "size 0\n", ""} {
						checkTake(t, g, impl.Message{From: from, Sum: sum, Has: text != "", Text: text})
					}
				}
			}
			checkDone(t, g)
		}
		for _, m := range sent {
			checkTake(t, next, impl.Message{From: m.To, Sum: m.Sum, Has: true, Text: "text two"})
		}
		if t.Failed() {
			t.Fatalf("seed %d", seed)
		}
	}
	if valid < 200 || valid > 900 {
		t.Errorf("%d of these fetches are valid", valid)
	}
}

// TestFetchOfOneWholeSum: a peer has another piece, or another thing, whose sums of 64 bits are those of the right one.
func TestFetchOfOneWholeSum(t *testing.T) {
	for _, pair := range wholeClashes()[:2] {
		for _, ahead := range []string{"", block(7), block(7) + block(8)} {
			a, b := ahead+pair[0], ahead+pair[1]
			for width := 3; width <= impl.MaxWidth; width++ {
				f := checkNew(t, impl.Store{Width: width, Room: 500}, impl.Name(a, width), 2)
				f, _ = fetchFrom(t, f, []impl.Store{holding(t, width, partsOf(a, width)...), holding(t, width, partsOf(b, width)...)})
				text, ok := checkDone(t, f)
				if !ok || text != a && text != b {
					t.Errorf("width %d: %.40q %v", width, text, ok)
				}
				checkWhole(t, f, a)
				checkWhole(t, f, b)
				other, _ := fetchFrom(t, checkNew(t, impl.Store{Width: width, Room: 500}, impl.Name(a, width), 1), somePeers(t, 1, width, partsOf(b, width)...))
				doneWith(t, "from one that has the other thing", other, b)
				// What is there first stays: the other piece is a lie then.
				there := withTexts(impl.Store{Width: width, Room: 500}, pair[0])
				f = waiting(t, there, impl.Name(a, width), impl.Sum(pair[1], width))
				isLie(t, "the other piece", f, pair[1])
			}
		}
	}
}

// TestFetchOfOneName: at a small width a peer has another thing of this name, with another list.
func TestFetchOfOneName(t *testing.T) {
	for width := 1; width <= 2; width++ {
		thing := "the thing that is asked for"
		other := sameName(t, thing, width)
		f, _ := fetchFrom(t, checkNew(t, impl.Store{Width: width, Room: 500}, impl.Name(thing, width), 1), somePeers(t, 1, width, partsOf(other, width)...))
		doneWith(t, "the other thing", f, other)
		if _, another := checkWhole(t, f, thing); !another {
			t.Errorf("width %d: it must be another one", width)
		}
	}
}

// TestFetchOfListThatNoThingHas: all that it names comes, and nothing is given, whatever it is.
func TestFetchOfListThatNoThingHas(t *testing.T) {
	p, q := block(1), block(2)
	for width := 3; width <= impl.MaxWidth; width++ {
		sums := func(texts ...string) []string { return listOf(texts, width).Sums }
		for _, l := range []impl.List{
			{Size: 17, Sums: sums(p, q)},
			{Size: 15, Sums: sums(p, q)},
			{Size: 0, Sums: sums(p)},
			{Size: 5},
			{Size: 6, Sums: sums("abc", "def")},
			{Size: 72, Sums: sums(uncut(64, "") + p)},
			{Size: 11, Sums: sums("abc", p)},
		} {
			form := impl.FormList(l, width)
			f := checkNew(t, impl.Store{Width: width, Room: 1000}, impl.Sum(form, width), 2)
			f, _ = fetchFrom(t, f, somePeers(t, 2, width, form, p, q, "abc", "def", uncut(64, "")+p))
			notDone(t, fmt.Sprintf("width %d, %s", width, shortList(l)), f)
			lacksJust(t, "all is there", f.Store, f.Name)
			for i, peer := range f.Peers {
				if peer.Lies != 0 || peer.Wait != 0 || len(peer.Nots) != 0 {
					t.Errorf("width %d: peer %d is %s", width, i+1, shortPeer(peer))
				}
			}
		}
	}
}

// textsOf are all the texts of a fetch.
func textsOf(f impl.Fetch) []string {
	texts := append([]string{f.Name}, f.Store.Pins...)
	for _, item := range f.Store.Items {
		texts = append(texts, item.Text)
	}
	for _, p := range f.Peers {
		texts = append(append(texts, p.Asked), p.Nots...)
	}
	return texts
}

// roomyFetch is a fetch whose lists have room behind their ends, with what stands there.
func roomyFetch(f impl.Fetch) (impl.Fetch, func() bool) {
	s, storeChanged := roomy(f.Store)
	peers := append(slices.Clone(f.Peers), impl.Peer{Lies: 7, Asked: "behind"}, impl.Peer{Lies: 8})
	changed := []func() bool{storeChanged}
	for i := range f.Peers {
		roomy, notsChanged := roomySums(f.Peers[i].Nots)
		peers[i].Nots = roomy
		changed = append(changed, notsChanged)
	}
	before := slices.Clone(peers)
	changed = append(changed, func() bool { return !slices.EqualFunc(peers, before, samePeer) })
	f.Store, f.Peers = s, peers[:len(f.Peers)]
	return f, func() bool { return slices.ContainsFunc(changed, func(c func() bool) bool { return c() }) }
}

// busy is a fetch with something in each of its lists, and an answer of each kind for it. Its peers 2 and 5 are not waiting.
func busy(t *testing.T) (impl.Fetch, []impl.Message) {
	t.Helper()
	f, sums := lackingSix(t, 5)
	f.Store = withPins(f.Store, "pinned 8")
	f.Peers[0] = impl.Peer{Wait: 3, Last: 38, Asked: sums[0], Nots: nots(sums[2], sums[4])}
	f.Peers[1] = impl.Peer{Lies: 1, Last: 3, Nots: nots(sums[1], sums[5])}
	f.Peers[2] = impl.Peer{Wait: 1, Last: 36, Asked: sums[1], Nots: nots(sums[0], sums[3])}
	f.Peers[3] = impl.Peer{Wait: 2, Last: 37, Asked: sums[2], Nots: nots("nothing8")}
	f.Peers[4] = impl.Peer{Last: -1, Nots: nots(sums[0])}
	return f, []impl.Message{
		{From: 1, Sum: sums[0], Has: true, Text: "text zero"},
		{From: 1, Sum: sums[0], Has: true, Text: "lie"},
		{From: 1, Sum: sums[0]},
		{From: 3, Sum: sums[1]},
		{From: 4, Sum: sums[2], Has: true, Text: "text two"},
		{From: 4, Sum: sums[2], Has: true, Text: ""},
		{From: 2, Sum: sums[2], Has: true, Text: "text two"},
		{From: 9, Sum: sums[2]},
		{From: 1, To: 1, Sum: sums[0]},
	}
}

func TestFetchesLeaveArgumentsAlone(t *testing.T) {
	right, messages := busy(t)
	small, wrong := copyFetch(right), copyFetch(right)
	small.Store.Room = bytesOf(small.Store)
	wrong.Peers[4].Nots = []string{"wrong", "ones", "there"}
	for what, given := range map[string]impl.Fetch{"valid": right, "full soon": small, "not valid": wrong} {
		f, changed := roomyFetch(given)
		name := watch(f.Name)
		f.Name = name.text
		impl.ValidFetch(f)
		impl.FetchDone(f)
		impl.FetchTick(f)
		impl.NewFetch(f.Store, name.text, 3)
		impl.NewFetch(f.Store, "new name", 3)
		if changed() || name.changed() {
			t.Errorf("%s: an argument was written into", what)
		}
		for _, m := range messages {
			sum, text := watch(m.Sum), watch(m.Text)
			m.Sum, m.Text = sum.text, text.text
			impl.FetchTake(f, m)
			if changed() || name.changed() || sum.changed() || text.changed() {
				t.Errorf("%s, %s: an argument was written into", what, shortMessages(m))
			}
		}
	}
}

// fillFetch overwrites one list of a fetch, with the room behind its end; it says whether there is such a one.
func fillFetch(f impl.Fetch, which int) bool {
	switch {
	case which == 0:
		fillSums(f.Store.Pins)
	case which == 1:
		for i, room := 0, f.Store.Items[:cap(f.Store.Items)]; i < len(room); i++ {
			room[i] = impl.Item{Text: "overwritten", Used: -1}
		}
	case which == 2:
		for i, room := len(f.Peers), f.Peers[:cap(f.Peers)]; i < len(room); i++ {
			room[i] = impl.Peer{Asked: "overwritten"}
		}
		for i := range f.Peers {
			f.Peers[i] = impl.Peer{Asked: "overwritten"}
		}
	case which-3 < len(f.Peers):
		fillSums(f.Peers[which-3].Nots)
	default:
		return false
	}
	return true
}

// checkNewFetch overwrites each list of an answer, one at a time, and looks at what else may have changed.
func checkNewFetch(t *testing.T, what string, given impl.Fetch, others []string, answer func() impl.Fetch) {
	t.Helper()
	before, want := copyFetch(given), copyFetch(answer())
	if sharesText(textsOf(answer()), append(textsOf(given), others...)...) {
		t.Errorf("%s: a text is shared", what)
	}
	for which := 0; ; which++ {
		one, other := answer(), answer()
		peers := slices.Clone(one.Peers)
		if !fillFetch(one, which) {
			break
		}
		if !sameFetch(other, want) || !sameFetch(given, before) || !sameFetch(answer(), want) {
			t.Errorf("%s: list %d is shared", what, which)
		}
		// Within the answer: all lists but the one are as they were.
		if which == 2 {
			one.Peers = peers
		}
		left := copyFetch(one)
		switch {
		case which == 0:
			left.Store.Pins = want.Store.Pins
		case which == 1:
			left.Store.Items = want.Store.Items
		case which > 2:
			left.Peers[which-3].Nots = want.Peers[which-3].Nots
		}
		if !sameFetch(left, want) {
			t.Errorf("%s: list %d shares memory with another one of its answer", what, which)
		}
	}
}

func TestFetchesAreNewMemory(t *testing.T) {
	given, messages := busy(t)
	f, _ := roomyFetch(given)
	f.Name = strings.Clone(f.Name)
	checkNewFetch(t, "FetchTick", f, nil, func() impl.Fetch { x, _ := impl.FetchTick(f); return x })
	for _, m := range messages {
		m.Sum, m.Text = strings.Clone(m.Sum), strings.Clone(m.Text)
		checkNewFetch(t, shortMessages(m), f, []string{m.Sum, m.Text}, func() impl.Fetch { return impl.FetchTake(f, m) })
	}
	late := copyFetch(f)
	late.Now = impl.MaxTime
	checkNewFetch(t, "FetchTick at MaxTime", late, nil, func() impl.Fetch { x, _ := impl.FetchTick(late); return x })
	name := strings.Clone("new name")
	for _, name := range []string{name, f.Store.Pins[0]} {
		checkNewFetch(t, "NewFetch", impl.Fetch{Store: f.Store}, []string{name}, func() impl.Fetch { return impl.NewFetch(f.Store, name, 3) })
		begun := impl.NewFetch(f.Store, name, 3)
		if sharesText([]string{begun.Name}, begun.Store.Pins...) {
			t.Error("NewFetch: the name is shared with a pin")
		}
	}
	checkNewMessages(t, f)
	// A name that is lacked is sent in memory of its own, too.
	checkNewMessages(t, impl.NewFetch(impl.Store{Width: 8, Room: 100}, strings.Clone("a name 8"), 1))
	one := strings.Clone("one piece")
	s, _ := impl.Save(impl.Store{Width: 8, Room: 100}, one, 1)
	whole := impl.NewFetch(s, impl.Name(one, 8), 1)
	if text, ok := impl.FetchDone(whole); !ok || sharesText([]string{text}, textsOf(whole)...) {
		t.Errorf("what is done is shared: %q %v", text, ok)
	}
}

// checkNewMessages asks that what is sent shares no memory with the fetch that it is told of, nor with the one beside it.
func checkNewMessages(t *testing.T, f impl.Fetch) {
	t.Helper()
	next, sent := impl.FetchTick(f)
	want, wantSent := copyFetch(next), slices.Clone(sent)
	if len(sent) == 0 {
		t.Fatal("nothing is sent")
	}
	for _, m := range sent {
		if sharesText([]string{m.Sum}, append(textsOf(f), textsOf(next)...)...) {
			t.Errorf("the sum of %s is shared", shortMessages(m))
		}
	}
	for i, room := 0, sent[:cap(sent)]; i < len(room); i++ {
		room[i] = impl.Message{From: 7, Sum: "overwritten"}
	}
	if again, sentAgain := impl.FetchTick(f); !sameFetch(next, want) || !sameFetch(again, want) || !slices.Equal(sentAgain, wantSent) {
		t.Error("what is sent is shared")
	}
}

// TestFetchesAnswerTheSameAtEachCall: whatever order a map is gone through in, and whatever was called besides.
func TestFetchesAnswerTheSameAtEachCall(t *testing.T) {
	f, messages := busy(t)
	even := copyFetch(f)
	for i := range even.Peers {
		even.Peers[i] = impl.Peer{Last: 7, Nots: even.Peers[i].Nots}
	}
	for range 200 {
		checkTick(t, f)
		checkTick(t, even)
		for _, m := range messages {
			checkTake(t, f, m)
			checkTake(t, even, m)
		}
		checkNew(t, f.Store, f.Name, 5)
		notDone(t, "called often", f)
		if t.Failed() {
			return
		}
	}
}
