package tests

import (
	"fmt"
	"math"
	"slices"
	"strconv"
	"strings"
	"testing"

	"loop.example/kilnpass/impl"
)

// wantValid goes through what the document asks of a store, word by word.
func wantValid(s impl.Store) bool {
	if s.Width < 1 || s.Width > 8 || s.Room < 0 || s.Room > 60000 || len(s.Items) > 1000 || len(s.Pins) > 10 {
		return false
	}
	bytes := 0
	for i, item := range s.Items {
		if item.Text == "" || len(item.Text) > 7000 || item.Used < 0 || item.Used > 1000000 {
			return false
		}
		if i > 0 && impl.Sum(s.Items[i-1].Text, s.Width) >= impl.Sum(item.Text, s.Width) {
			return false
		}
		bytes += len(item.Text)
	}
	for i, pin := range s.Pins {
		if len(pin) != s.Width || i > 0 && s.Pins[i-1] >= pin {
			return false
		}
	}
	return bytes <= s.Room
}

// placeOf is the place of the item with this sum, -1 if there is none.
func placeOf(s impl.Store, sum string) int {
	return slices.IndexFunc(s.Items, func(item impl.Item) bool { return impl.Sum(item.Text, s.Width) == sum })
}

func bytesOf(s impl.Store) int {
	bytes := 0
	for _, item := range s.Items {
		bytes += len(item.Text)
	}
	return bytes
}

func wantNeeded(s impl.Store) []string {
	if !wantValid(s) {
		return nil
	}
	needed := slices.Clone(s.Pins)
	for _, pin := range s.Pins {
		if at := placeOf(s, pin); at >= 0 {
			l, _ := wantRead(s.Items[at].Text, s.Width)
			needed = append(needed, l.Sums...)
		}
	}
	slices.Sort(needed)
	return slices.Compact(needed)
}

// copyStore has lists of its own.
func copyStore(s impl.Store) impl.Store {
	s.Items, s.Pins = slices.Clone(s.Items), slices.Clone(s.Pins)
	return s
}

// withItem is the store with one item more, in its place.
func withItem(s impl.Store, item impl.Item) impl.Store {
	s = copyStore(s)
	at := 0
	for at < len(s.Items) && impl.Sum(s.Items[at].Text, s.Width) < impl.Sum(item.Text, s.Width) {
		at++
	}
	s.Items = slices.Insert(s.Items, at, item)
	return s
}

// withPins is the store with these pins, put in order.
func withPins(s impl.Store, pins ...string) impl.Store {
	s = copyStore(s)
	s.Pins = append(s.Pins, pins...)
	slices.Sort(s.Pins)
	return s
}

func withRoom(s impl.Store, room int) impl.Store {
	s = copyStore(s)
	s.Room = room
	return s
}

// leaverOf is the place of the item that is given away next, -1 if there is none.
func leaverOf(s impl.Store, needed []string) int {
	least := -1
	for i, item := range s.Items {
		// Items stand in the order of their sums, so the first of several is the one with the least.
		if !slices.Contains(needed, impl.Sum(item.Text, s.Width)) && (least < 0 || item.Used < s.Items[least].Used) {
			least = i
		}
	}
	return least
}

func wantPut(s impl.Store, text string, now int) (impl.Store, int) {
	if !wantValid(s) || text == "" || len(text) > 7000 || now < 0 || now > 1000000 {
		return impl.Store{}, 1
	}
	s = copyStore(s)
	if at := placeOf(s, impl.Sum(text, s.Width)); at >= 0 {
		if s.Items[at].Text != text {
			return impl.Store{}, 2
		}
		s.Items[at].Used = now
		return s, 0
	}
	ahead := copyStore(s)
	for len(s.Items)+1 > 1000 || bytesOf(s)+len(text) > s.Room {
		at := leaverOf(s, wantNeeded(ahead))
		if at < 0 {
			return impl.Store{}, 3
		}
		s.Items = slices.Delete(s.Items, at, at+1)
	}
	return withItem(s, impl.Item{Text: text, Used: now}), 0
}

func wantGet(s impl.Store, sum string, now int) (string, impl.Store, bool) {
	at := placeOf(s, sum)
	if !wantValid(s) || now < 0 || now > 1000000 || at < 0 {
		return "", impl.Store{}, false
	}
	s = copyStore(s)
	s.Items[at].Used = now
	return s.Items[at].Text, s, true
}

func wantPin(s impl.Store, name string) (impl.Store, int) {
	if !wantValid(s) || len(name) != s.Width {
		return impl.Store{}, 1
	}
	if slices.Contains(s.Pins, name) {
		return s, 0
	}
	if len(s.Pins)+1 > 10 {
		return impl.Store{}, 2
	}
	return withPins(s, name), 0
}

func wantUnpin(s impl.Store, name string) (impl.Store, int) {
	if !wantValid(s) || len(name) != s.Width {
		return impl.Store{}, 1
	}
	if !slices.Contains(s.Pins, name) {
		return impl.Store{}, 2
	}
	s = copyStore(s)
	s.Pins = slices.DeleteFunc(s.Pins, func(pin string) bool { return pin == name })
	return s, 0
}

func sameStore(a, b impl.Store) bool {
	return a.Width == b.Width && a.Room == b.Room && slices.Equal(a.Items, b.Items) && slices.Equal(a.Pins, b.Pins)
}

// shortStore tells a store in few words.
func shortStore(s impl.Store) string {
	out := fmt.Sprintf("width %d, room %d, %d items:", s.Width, s.Room, len(s.Items))
	for i, item := range s.Items {
		if i == 12 {
			out += " .."
			break
		}
		out += fmt.Sprintf(" %.12q@%d", item.Text, item.Used)
	}
	return out + ", pins: " + shortSums(s.Pins)
}

// shortSums tells sums in few words.
func shortSums(sums []string) string {
	return fmt.Sprintf("%d %x", len(sums), sums[:min(len(sums), 6)])
}

// checkAnswer holds a store and a code against what is wanted, and both against the promise.
func checkAnswer(t *testing.T, what string, ahead, got, want impl.Store, code, wantCode int) {
	t.Helper()
	if code != wantCode || !sameStore(got, want) {
		t.Errorf("%s of %s:\ncode %d, %s,\nnot code %d, %s", what, shortStore(ahead), code, shortStore(got), wantCode, shortStore(want))
	}
	if code == 0 {
		checkKept(t, what, ahead, got)
	} else if !sameStore(got, impl.Store{}) {
		t.Errorf("%s: code %d beside %s", what, code, shortStore(got))
	}
}

// checkKept asks that a store made of a valid one is valid, and that all that was needed ahead of it is there.
func checkKept(t *testing.T, what string, ahead, got impl.Store) {
	t.Helper()
	if !impl.ValidStore(got) || !wantValid(got) {
		t.Errorf("%s of %s: not valid: %s", what, shortStore(ahead), shortStore(got))
	}
	for _, sum := range wantNeeded(ahead) {
		before, behind := placeOf(ahead, sum), placeOf(got, sum)
		if before >= 0 && (behind < 0 || got.Items[behind].Text != ahead.Items[before].Text) {
			t.Errorf("%s of %s: %x was needed", what, shortStore(ahead), sum)
		}
	}
}

func checkPut(t *testing.T, s impl.Store, text string, now int) (impl.Store, int) {
	t.Helper()
	what := fmt.Sprintf("Put %d bytes %.20q at %d", len(text), text, now)
	got, code := impl.Put(s, text, now)
	want, wantCode := wantPut(s, text, now)
	checkAnswer(t, what, s, got, want, code, wantCode)
	if at := placeOf(got, impl.Sum(text, s.Width)); code == 0 && (at < 0 || got.Items[at] != impl.Item{Text: text, Used: now}) {
		t.Errorf("%s: it is not there", what)
	}
	return got, code
}

func checkGet(t *testing.T, s impl.Store, sum string, now int) (impl.Store, bool) {
	t.Helper()
	text, got, ok := impl.Get(s, sum, now)
	wantText, want, wantOk := wantGet(s, sum, now)
	if text != wantText || ok != wantOk || !sameStore(got, want) {
		t.Errorf("Get %x at %d of %s:\n%.20q %v, %s,\nnot %.20q %v, %s", sum, now, shortStore(s), text, ok, shortStore(got), wantText, wantOk, shortStore(want))
	}
	if ok {
		checkKept(t, "Get", s, got)
	}
	return got, ok
}

func checkPin(t *testing.T, s impl.Store, name string) (impl.Store, int) {
	t.Helper()
	got, code := impl.Pin(s, name)
	want, wantCode := wantPin(s, name)
	checkAnswer(t, fmt.Sprintf("Pin %x", name), s, got, want, code, wantCode)
	return got, code
}

func checkUnpin(t *testing.T, s impl.Store, name string) (impl.Store, int) {
	t.Helper()
	got, code := impl.Unpin(s, name)
	want, wantCode := wantUnpin(s, name)
	checkAnswer(t, fmt.Sprintf("Unpin %x", name), s, got, want, code, wantCode)
	return got, code
}

func checkNeeded(t *testing.T, s impl.Store) []string {
	t.Helper()
	needed := impl.Needed(s)
	if want := wantNeeded(s); !slices.Equal(needed, want) {
		t.Errorf("%s: needed %s, not %s", shortStore(s), shortSums(needed), shortSums(want))
	}
	return needed
}

// storeOf is a store with these texts, the first Used at 1, and each later one at one more.
func storeOf(t *testing.T, width, room int, texts ...string) impl.Store {
	t.Helper()
	s := impl.Store{Width: width, Room: room}
	for i, text := range texts {
		s = withItem(s, impl.Item{Text: text, Used: i + 1})
	}
	if !impl.ValidStore(s) || !wantValid(s) {
		t.Fatalf("%s must be valid", shortStore(s))
	}
	return s
}

// different are n texts of this size that have different sums.
func different(t *testing.T, n, size, width int) []string {
	t.Helper()
	out := []string{}
	sums := map[string]int{}
	for i := 0; len(out) < n; i++ {
		text := drawn(i, size, allBytes())
		if sums[impl.Sum(text, width)]++; sums[impl.Sum(text, width)] == 1 {
			out = append(out, text)
		}
		if i > 1000*n {
			t.Fatalf("no %d texts of %d bytes with different sums of %d bytes", n, size, width)
		}
	}
	return out
}

// formOf is the form of a list of these texts, which is any list, not that of a thing.
func formOf(width int, texts ...string) string {
	return impl.FormList(listOf(texts, width), width)
}

// holdsJust asks for these texts and no other.
func holdsJust(t *testing.T, what string, s impl.Store, texts ...string) {
	t.Helper()
	got := []string{}
	for _, item := range s.Items {
		got = append(got, item.Text)
	}
	slices.Sort(got)
	want := slices.Sorted(slices.Values(texts))
	if !slices.Equal(got, want) {
		t.Errorf("%s: %.20q, not %.20q", what, got, want)
	}
}

func TestStoreOfEveryWidth(t *testing.T) {
	for width := 1; width <= impl.MaxWidth; width++ {
		for _, n := range []int{0, 1, 2, 7, 40} {
			texts := different(t, n+3, 12, width)
			s := storeOf(t, width, 12*(n+1), texts[:n]...)
			checkNeeded(t, s)
			with, code := checkPut(t, s, texts[n], 77)
			if code != 0 || len(with.Items) != n+1 {
				t.Errorf("width %d, %d items: code %d, %s", width, n, code, shortStore(with))
			}
			again, code := checkPut(t, with, texts[n/2], 3)
			if code != 0 || len(again.Items) != n+1 {
				t.Errorf("width %d, %d items, one again: code %d, %s", width, n, code, shortStore(again))
			}
			more, code := checkPut(t, again, texts[n+1], 9)
			if code != 0 || len(more.Items) != n+1 {
				t.Errorf("width %d, %d items, one given away: code %d, %s", width, n, code, shortStore(more))
			}
			for _, text := range texts {
				checkGet(t, s, impl.Sum(text, width), 5)
				pinned, _ := checkPin(t, with, impl.Sum(text, width))
				checkNeeded(t, pinned)
				checkPut(t, pinned, texts[n+1], 9)
				checkUnpin(t, pinned, impl.Sum(text, width))
				checkUnpin(t, s, impl.Sum(text, width))
			}
		}
	}
}

func TestWhatIsGivenAway(t *testing.T) {
	s := impl.Store{Width: 8, Room: 20, Items: nil}
	for _, item := range []impl.Item{{Text: "aaaaa", Used: 40}, {Text: "bb", Used: 10}, {Text: "cccccccc", Used: 30}, {Text: "ddd", Used: 20}} {
		s = withItem(s, item)
	}
	for _, c := range []struct {
		text string
		want []string
	}{
		{"ee", []string{"aaaaa", "bb", "cccccccc", "ddd", "ee"}},
		{"eee", []string{"aaaaa", "cccccccc", "ddd", "eee"}},
		{"eeee", []string{"aaaaa", "cccccccc", "ddd", "eeee"}},
		{"eeeee", []string{"aaaaa", "cccccccc", "eeeee"}},
		{"eeeeeee", []string{"aaaaa", "cccccccc", "eeeeeee"}},
		{"eeeeeeee", []string{"aaaaa", "eeeeeeee"}},
		{strings.Repeat("e", 15), []string{"aaaaa", strings.Repeat("e", 15)}},
		{strings.Repeat("e", 16), []string{strings.Repeat("e", 16)}},
		{strings.Repeat("e", 20), []string{strings.Repeat("e", 20)}},
	} {
		got, code := checkPut(t, s, c.text, 0)
		if code != 0 {
			t.Errorf("%q: code %d", c.text, code)
		}
		holdsJust(t, c.text, got, c.want...)
	}
	if _, code := checkPut(t, s, strings.Repeat("e", 21), 0); code != 3 {
		t.Errorf("more than the room: code %d", code)
	}
	// A greater item that goes makes room for good: a smaller one behind it stays.
	got, _ := checkPut(t, withRoom(s, 18), "e", 50)
	holdsJust(t, "the one with the least Used, not the one that fits", got, "aaaaa", "cccccccc", "ddd", "e")
}

func TestGivenAwayByPins(t *testing.T) {
	s := storeOf(t, 8, 12, "aaa", "bbb", "ccc", "ddd")
	for _, c := range []struct {
		pins []string
		text string
		want []string
	}{
		{[]string{"aaa"}, "e", []string{"aaa", "ccc", "ddd", "e"}},
		{[]string{"aaa", "bbb"}, "eeee", []string{"aaa", "bbb", "eeee"}},
		{[]string{"bbb"}, "eeee", []string{"bbb", "ddd", "eeee"}},
		{[]string{"ccc", "ddd", "aaa"}, "e", []string{"aaa", "ccc", "ddd", "e"}},
		{[]string{"ccc", "ddd", "aaa"}, "eeee", nil},
		{[]string{"aaa", "bbb", "ccc", "ddd"}, "e", nil},
		{[]string{"no item"}, "e", []string{"bbb", "ccc", "ddd", "e"}},
		{[]string{"e"}, "e", []string{"bbb", "ccc", "ddd", "e"}},
	} {
		pinned := s
		for _, text := range c.pins {
			pinned = withPins(pinned, impl.Sum(text, 8))
		}
		got, code := checkPut(t, pinned, c.text, 5)
		if (code == 0) != (c.want != nil) || code != 0 && code != 3 {
			t.Errorf("%q, %q: code %d", c.pins, c.text, code)
		}
		holdsJust(t, c.text, got, c.want...)
	}
}

func TestGivenAwayByList(t *testing.T) {
	form := formOf(8, "bbb", "ddd", "not there", "bbb")
	s := storeOf(t, 8, len(form)+15, "aaa", "bbb", form, "ccc", "ddd", "fff")
	pinned := withPins(s, impl.Sum(form, 8))
	got, code := checkPut(t, pinned, "eeeeeeeee", 9)
	if code != 0 {
		t.Errorf("code %d", code)
	}
	holdsJust(t, "what the list does not name", got, "bbb", "ddd", form, "eeeeeeeee")
	if _, code := checkPut(t, pinned, "eeeeeeeeee", 9); code != 3 {
		t.Errorf("one byte more: code %d", code)
	}
	got, code = checkPut(t, s, "eeeeeeeeee", 9)
	if code != 0 {
		t.Errorf("no pin: code %d", code)
	}
	holdsJust(t, "a list that is not pinned needs nothing", got, "ccc", "ddd", "fff", "eeeeeeeeee")
	// A name alone holds no pieces.
	gone := storeOf(t, 8, 9, "aaa", "bbb", "ddd")
	got, _ = checkPut(t, withPins(gone, impl.Sum(form, 8)), "eeeeeeeee", 9)
	holdsJust(t, "the list is not there", got, "eeeeeeeee")
}

// TestNeededAheadOfTheCall: what the text that is put needs itself may be given away for it.
func TestNeededAheadOfTheCall(t *testing.T) {
	for width := 1; width <= impl.MaxWidth; width++ {
		texts := different(t, 25, 20, width)
		last := texts[24]
		form := formOf(width, texts[:24]...)
		name := impl.Sum(form, width)
		s := withPins(storeOf(t, width, len(form)+39, texts[0], texts[1], last), name)
		if placeOf(s, name) >= 0 {
			t.Fatalf("width %d: the list must have a sum of its own", width)
		}
		got, code := checkPut(t, s, form, 9)
		if code != 0 {
			t.Errorf("width %d: code %d", width, code)
		}
		holdsJust(t, "its own pieces, used first, go first", got, last, form)
		// Behind the call they are needed.
		if needed := checkNeeded(t, got); len(needed) != 25 {
			t.Errorf("width %d: %x", width, needed)
		}
		got, code = checkPut(t, got, texts[0], 0)
		if code != 0 {
			t.Errorf("width %d, put back: code %d", width, code)
		}
		holdsJust(t, "a piece for the one that is not needed", got, texts[0], form)
		if _, code = checkPut(t, got, last, 0); code != 3 {
			t.Errorf("width %d, all are needed: code %d", width, code)
		}
	}
}

func TestNeeded(t *testing.T) {
	p, q, r := "piece p", "piece q", "piece r"
	for width := 2; width <= impl.MaxWidth; width++ {
		sum := func(text string) string { return impl.Sum(text, width) }
		inner := formOf(width, r)
		form := formOf(width, p, q, p, inner)
		other := formOf(width, q, r)
		wide := formOf(width%impl.MaxWidth+1, p, q)
		nearly := form[:len(form)-1]
		s := storeOf(t, width, 1000, p, inner, form, other, wide, nearly)
		for _, c := range []struct {
			what string
			pins []string
			want []string
		}{
			{"no pins", nil, nil},
			{"a name alone", []string{sum("no item")}, []string{sum("no item")}},
			{"a piece", []string{sum(p)}, []string{sum(p)}},
			{"a list, and not what a list in it names", []string{sum(form)}, []string{sum(form), sum(p), sum(q), sum(inner)}},
			{"two lists with a piece in common", []string{sum(form), sum(other)}, []string{sum(form), sum(p), sum(q), sum(inner), sum(other), sum(r)}},
			{"a list, and one that it names", []string{sum(form), sum(inner)}, []string{sum(form), sum(p), sum(q), sum(inner), sum(r)}},
			{"a list and its piece", []string{sum(inner), sum(r)}, []string{sum(inner), sum(r)}},
			{"a list of another width", []string{sum(wide)}, []string{sum(wide)}},
			{"a text that is nearly a list", []string{sum(nearly)}, []string{sum(nearly)}},
			{"a list and a name alone", []string{sum(other), sum("no item")}, []string{sum(other), sum("no item"), sum(q), sum(r)}},
		} {
			slices.Sort(c.want)
			if needed := checkNeeded(t, withPins(s, c.pins...)); !slices.Equal(needed, slices.Compact(c.want)) {
				t.Errorf("width %d, %s: %x, not %x", width, c.what, needed, c.want)
			}
		}
	}
}

func TestNeededOfEmptyList(t *testing.T) {
	for width := 1; width <= impl.MaxWidth; width++ {
		form := impl.FormList(impl.List{Size: 12}, width)
		s := withPins(storeOf(t, width, 100, form), impl.Sum(form, width))
		if needed := checkNeeded(t, s); len(needed) != 1 {
			t.Errorf("width %d: %x", width, needed)
		}
	}
}

// TestUsedBecomesEarlier: the last call says when a text was used, whether this is later or not.
func TestUsedBecomesEarlier(t *testing.T) {
	s := impl.Store{Width: 8, Room: 9}
	for _, item := range []impl.Item{{Text: "aaa", Used: 500}, {Text: "bbb", Used: 600}, {Text: "ccc", Used: 700}} {
		s = withItem(s, item)
	}
	for _, c := range []struct {
		text string
		now  int
		want []string
	}{
		{"ccc", 499, []string{"aaa", "bbb", "d"}},
		{"ccc", 501, []string{"bbb", "ccc", "d"}},
		{"ccc", 0, []string{"aaa", "bbb", "d"}},
		{"aaa", 601, []string{"aaa", "ccc", "d"}},
		{"aaa", 599, []string{"bbb", "ccc", "d"}},
		{"aaa", impl.MaxTime, []string{"aaa", "ccc", "d"}},
		{"bbb", 1, []string{"aaa", "ccc", "d"}},
	} {
		got, code := checkPut(t, s, c.text, c.now)
		if code != 0 {
			t.Errorf("%q again at %d: code %d", c.text, c.now, code)
		}
		holdsJust(t, "put again: none goes", got, "aaa", "bbb", "ccc")
		behind, _ := checkPut(t, got, "d", 1)
		holdsJust(t, "behind Put", behind, c.want...)
		got, ok := checkGet(t, s, impl.Sum(c.text, 8), c.now)
		if !ok {
			t.Errorf("%q at %d is not got", c.text, c.now)
		}
		behind, _ = checkPut(t, got, "d", 1)
		holdsJust(t, "behind Get", behind, c.want...)
	}
}

func TestItemsOfOneUsed(t *testing.T) {
	for width := 1; width <= impl.MaxWidth; width++ {
		texts := different(t, 30, 5, width)
		s := impl.Store{Width: width, Room: 150}
		for i, text := range texts {
			s = withItem(s, impl.Item{Text: text, Used: 7 + i%2})
		}
		for n := 1; n <= 30; n++ {
			text := drawn(n, 5*n, lowLetters)
			if placeOf(s, impl.Sum(text, width)) < 0 {
				got, code := checkPut(t, s, text, 3)
				if code != 0 || len(got.Items) != 31-n {
					t.Errorf("width %d, %d given away: code %d, %s", width, n, code, shortStore(got))
				}
			}
		}
	}
	// Not by the text: the one with the least sum goes, here the last one by its bytes.
	a, z := "a", "z"
	for impl.Sum(a, 8) < impl.Sum(z, 8) {
		a += "a"
	}
	s := withItem(withItem(impl.Store{Width: 8, Room: len(a) + 1}, impl.Item{Text: a, Used: 4}), impl.Item{Text: z, Used: 4})
	got, _ := checkPut(t, s, "e", 4)
	holdsJust(t, "the least sum goes", got, a, "e")
}

func TestRoomLimits(t *testing.T) {
	for width := 1; width <= impl.MaxWidth; width++ {
		texts := different(t, 4, 25, width)
		for _, room := range []int{100, 99, 76, 75, 74} {
			s := storeOf(t, width, 75, texts[:3]...)
			s.Room = room
			got, code := checkPut(t, s, texts[3], 9)
			if room == 74 {
				if code != 1 {
					t.Errorf("more bytes than room: code %d", code)
				}
				continue
			}
			if want := map[bool]int{true: 4, false: 3}[room == 100]; code != 0 || len(got.Items) != want {
				t.Errorf("width %d, room %d: code %d, %d items, not %d", width, room, code, len(got.Items), want)
			}
		}
		empty := impl.Store{Width: width, Room: 25}
		if _, code := checkPut(t, empty, texts[0], 1); code != 0 {
			t.Errorf("width %d: a text of Room bytes: code %d", width, code)
		}
		for _, room := range []int{0, 1, 24} {
			if _, code := checkPut(t, withRoom(empty, room), texts[0], 1); code != 3 {
				t.Errorf("width %d, room %d: code %d", width, room, code)
			}
		}
	}
	texts := different(t, 9, impl.MaxBlob, 8)
	full := storeOf(t, 8, impl.MaxRoom, append(texts[:8], texts[8][:4000])...)
	got, code := checkPut(t, full, "e", 99)
	if code != 0 || len(got.Items) != 9 {
		t.Errorf("MaxRoom: code %d, %s", code, shortStore(got))
	}
	if _, code := checkPut(t, withRoom(full, impl.MaxRoom+1), "e", 99); code != 1 {
		t.Errorf("more than MaxRoom: code %d", code)
	}
}

func TestItemLimits(t *testing.T) {
	texts := different(t, impl.MaxItems+2, 3, 8)
	s := storeOf(t, 8, impl.MaxRoom, texts[:impl.MaxItems-1]...)
	full, code := checkPut(t, s, texts[impl.MaxItems-1], 2000)
	if code != 0 || len(full.Items) != impl.MaxItems {
		t.Fatalf("MaxItems: code %d, %d items", code, len(full.Items))
	}
	got, code := checkPut(t, full, texts[impl.MaxItems], 2001)
	if code != 0 || len(got.Items) != impl.MaxItems || placeOf(got, impl.Sum(texts[0], 8)) >= 0 {
		t.Errorf("one more: code %d, %d items", code, len(got.Items))
	}
	if _, code := checkPut(t, full, texts[5], 2001); code != 0 {
		t.Errorf("one that is there: code %d", code)
	}
	over := withItem(full, impl.Item{Text: texts[impl.MaxItems], Used: 1})
	if _, code := checkPut(t, over, texts[5], 1); code != 1 || impl.ValidStore(over) {
		t.Errorf("more than MaxItems: code %d", code)
	}
	// Both bounds at once: the bytes ask for two more than the number does.
	tight := withRoom(full, 3*impl.MaxItems)
	got, code = checkPut(t, tight, "123456789", 2001)
	if code != 0 || len(got.Items) != impl.MaxItems-2 {
		t.Errorf("both bounds: code %d, %d items", code, len(got.Items))
	}
}

func TestMaxItemsAllNeeded(t *testing.T) {
	texts := different(t, 992, 4, 8)
	s := impl.Store{Width: 8, Room: impl.MaxRoom}
	for i, text := range texts[:990] {
		s = withItem(s, impl.Item{Text: text, Used: i})
	}
	for i := range impl.MaxPins {
		form := formOf(8, texts[99*i:99*i+99]...)
		s = withPins(withItem(s, impl.Item{Text: form, Used: i}), impl.Sum(form, 8))
	}
	if len(s.Items) != impl.MaxItems || len(checkNeeded(t, s)) != impl.MaxItems {
		t.Fatalf("%d items, %d needed", len(s.Items), len(impl.Needed(s)))
	}
	if _, code := checkPut(t, s, texts[990], 5); code != 3 {
		t.Errorf("all are needed: code %d", code)
	}
	free, _ := checkUnpin(t, s, s.Pins[4])
	got, code := checkPut(t, free, texts[990], 5)
	if code != 0 || len(got.Items) != impl.MaxItems {
		t.Errorf("a list less: code %d, %d items", code, len(got.Items))
	}
}

func TestTextLimits(t *testing.T) {
	long := drawn(5, impl.MaxBlob+1, allBytes())
	for width := 1; width <= impl.MaxWidth; width++ {
		s := impl.Store{Width: width, Room: impl.MaxRoom}
		for _, text := range []string{"a", "\x00", long[:impl.MaxBlob-1], long[:impl.MaxBlob]} {
			got, code := checkPut(t, s, text, 1)
			if code != 0 || len(got.Items) != 1 {
				t.Errorf("width %d, %d bytes: code %d", width, len(text), code)
			}
			if again, ok := checkGet(t, got, impl.Sum(text, width), 2); !ok || again.Items[0].Used != 2 {
				t.Errorf("width %d, %d bytes: %v", width, len(text), ok)
			}
		}
		for _, text := range []string{"", long, long + long} {
			if _, code := checkPut(t, s, text, 1); code != 1 {
				t.Errorf("width %d, %d bytes: code %d", width, len(text), code)
			}
		}
		// No item is under the sum of the empty text, and none under the empty text.
		checkGet(t, s, impl.Sum("", width), 1)
		checkGet(t, s, "", 1)
	}
}

func TestTimeLimits(t *testing.T) {
	s := storeOf(t, 8, 100, "aaa", "bbb")
	for _, now := range []int{0, 1, impl.MaxTime - 1, impl.MaxTime} {
		for _, text := range []string{"aaa", "ccc"} {
			if _, code := checkPut(t, s, text, now); code != 0 {
				t.Errorf("%q at %d: code %d", text, now, code)
			}
		}
		if _, ok := checkGet(t, s, impl.Sum("bbb", 8), now); !ok {
			t.Errorf("at %d: not got", now)
		}
	}
	for _, now := range []int{-1, impl.MaxTime + 1, math.MinInt, math.MaxInt} {
		for _, text := range []string{"aaa", "ccc"} {
			if _, code := checkPut(t, s, text, now); code != 1 {
				t.Errorf("%q at %d: code %d", text, now, code)
			}
		}
		if _, ok := checkGet(t, s, impl.Sum("bbb", 8), now); ok {
			t.Errorf("at %d: got", now)
		}
	}
}

func TestPinLimits(t *testing.T) {
	for width := 1; width <= impl.MaxWidth; width++ {
		s := storeOf(t, width, 100, "aaa")
		names := []string{}
		for i := range impl.MaxPins + 1 {
			names = append(names, strings.Repeat(string([]byte{byte(251 * (i + 1) % 256)}), width))
		}
		code := 0
		for i, name := range names[:impl.MaxPins] {
			if s, code = checkPin(t, s, name); code != 0 || len(s.Pins) != i+1 {
				t.Errorf("width %d, pin %d: code %d, %d pins", width, i, code, len(s.Pins))
			}
			if again, code := checkPin(t, s, name); code != 0 || !sameStore(again, s) {
				t.Errorf("width %d, pin %d once more: code %d", width, i, code)
			}
		}
		if _, code := checkPin(t, s, names[impl.MaxPins]); code != 2 {
			t.Errorf("width %d, one more than MaxPins: code %d", width, code)
		}
		if _, code := checkUnpin(t, s, names[impl.MaxPins]); code != 2 {
			t.Errorf("width %d, no pin: code %d", width, code)
		}
		for _, name := range names[:impl.MaxPins] {
			if again, code := checkPin(t, s, name); code != 0 || !sameStore(again, s) {
				t.Errorf("width %d, pinned already: code %d", width, code)
			}
			less, code := checkUnpin(t, s, name)
			if code != 0 || len(less.Pins) != impl.MaxPins-1 {
				t.Errorf("width %d, unpin: code %d, %d pins", width, code, len(less.Pins))
			}
			if _, code := checkUnpin(t, less, name); code != 2 {
				t.Errorf("width %d, unpinned already: code %d", width, code)
			}
			if back, code := checkPin(t, less, name); code != 0 || !sameStore(back, s) {
				t.Errorf("width %d, pinned again: code %d", width, code)
			}
		}
	}
}

func TestNamesOfAnotherSize(t *testing.T) {
	for width := 1; width <= impl.MaxWidth; width++ {
		s := storeOf(t, width, 100, "aaa", "bb")
		full := s
		for i := range impl.MaxPins {
			full = withPins(full, strings.Repeat(string([]byte{byte(i + 65)}), width))
		}
		for size := range impl.MaxWidth + 3 {
			if size == width {
				continue
			}
			for _, name := range []string{strings.Repeat("A", size), strings.Repeat("\x00", size), drawn(size, size, allBytes())} {
				for _, s := range []impl.Store{s, full} {
					if _, code := checkPin(t, s, name); code != 1 {
						t.Errorf("width %d, pin of %d bytes: code %d", width, size, code)
					}
					if _, code := checkUnpin(t, s, name); code != 1 {
						t.Errorf("width %d, unpin of %d bytes: code %d", width, size, code)
					}
					if _, ok := checkGet(t, s, name, 1); ok {
						t.Errorf("width %d, get of %d bytes", width, size)
					}
				}
			}
			if size > 0 && size <= impl.MaxWidth {
				if _, ok := checkGet(t, s, impl.Sum("aaa", size), 1); ok {
					t.Errorf("width %d, get by the sum of %d bytes", width, size)
				}
			}
		}
	}
}

// TestTwoTextsWithOneSum: the second one is refused, whether there is room for it or not, and whether the first is needed or not.
func TestTwoTextsWithOneSum(t *testing.T) {
	pairs := wholeClashes()
	for width := 1; width <= impl.MaxWidth; width++ {
		all := pairs
		if width <= 2 {
			all = append(slices.Clone(pairs), [2]string{"text", sameSum(t, "text", width)})
		}
		for _, pair := range all {
			checkTwoTexts(t, pair[0], pair[1], width)
			checkTwoTexts(t, pair[1], pair[0], width)
		}
	}
}

// checkTwoTexts puts y into stores that hold x, which has its sum.
func checkTwoTexts(t *testing.T, x, y string, width int) {
	t.Helper()
	s := storeOf(t, width, len(x), x)
	pinned := withPins(s, impl.Sum(x, width))
	for _, s := range []impl.Store{s, pinned, withRoom(s, 1000), withRoom(pinned, 1000)} {
		if _, code := checkPut(t, s, y, 5); code != 2 {
			t.Errorf("%q on %q, width %d: code %d", y, x, width, code)
		}
		if _, code := checkPut(t, s, x, 5); code != 0 {
			t.Errorf("%q again, width %d: code %d", x, width, code)
		}
		if _, code := checkPut(t, s, y, -1); code != 1 {
			t.Errorf("%q at -1, width %d: code %d", y, width, code)
		}
		if text, _, ok := impl.Get(s, impl.Sum(y, width), 5); !ok || text != x {
			t.Errorf("%q, width %d: got %q %v", x, width, text, ok)
		}
	}
}

// wrongStores are stores that are not valid, each for one reason alone.
func wrongStores(t *testing.T) map[string]impl.Store {
	right := withPins(storeOf(t, 2, 100, "aaa", "bb", "c"), "p1", "p2")
	if !impl.ValidStore(right) {
		t.Fatal("the store that these are made of must be valid")
	}
	out := map[string]impl.Store{}
	add := func(what string, change func(s *impl.Store)) {
		s := copyStore(right)
		change(&s)
		out[what] = s
	}
	for _, width := range badWidths() {
		out["the width "+strconv.Itoa(width)] = impl.Store{Width: width, Room: 10}
		add("items of the width "+strconv.Itoa(width), func(s *impl.Store) { s.Width = width })
	}
	add("another width", func(s *impl.Store) { s.Width = 3 })
	for _, room := range []int{-1, -100, impl.MaxRoom + 1, math.MinInt, math.MaxInt} {
		add("the room "+strconv.Itoa(room), func(s *impl.Store) { s.Room = room })
		out["the room "+strconv.Itoa(room)+", no items"] = impl.Store{Width: 2, Room: room}
	}
	for _, room := range []int{5, 1, 0} {
		add("more bytes than the room "+strconv.Itoa(room), func(s *impl.Store) { s.Room = room })
	}
	out["an empty item"] = withItem(right, impl.Item{Used: 1})
	out["an empty item alone"] = impl.Store{Width: 2, Room: 10, Items: []impl.Item{{}}}
	out["an item that is too long"] = withItem(withRoom(right, impl.MaxRoom), impl.Item{Text: strings.Repeat("x", impl.MaxBlob+1), Used: 1})
	for _, used := range []int{-1, impl.MaxTime + 1, math.MinInt, math.MaxInt} {
		for i := range 3 {
			add(fmt.Sprintf("used %d, item %d", used, i), func(s *impl.Store) { s.Items[i].Used = used })
		}
	}
	for i := range 2 {
		add(fmt.Sprintf("items %d and the next exchanged", i), func(s *impl.Store) { s.Items[i], s.Items[i+1] = s.Items[i+1], s.Items[i] })
		add(fmt.Sprintf("item %d twice", i), func(s *impl.Store) { s.Items = slices.Insert(s.Items, i, s.Items[i]) })
	}
	add("the first item once more at the end", func(s *impl.Store) { s.Items = append(s.Items, s.Items[0]) })
	out["two items with one sum"] = withItem(withRoom(right, 1000), impl.Item{Text: sameSum(t, "bb", 2), Used: 1})
	pair := wholeClashes()[0]
	out["two items with one whole sum"] = impl.Store{Width: 8, Room: 100, Items: []impl.Item{{Text: pair[0]}, {Text: pair[1]}}}
	many := different(t, impl.MaxItems+1, 3, 2)
	out["too many items"] = impl.Store{Width: 2, Room: impl.MaxRoom}
	for _, text := range many {
		out["too many items"] = withItem(out["too many items"], impl.Item{Text: text})
	}
	add("pins exchanged", func(s *impl.Store) { s.Pins[0], s.Pins[1] = s.Pins[1], s.Pins[0] })
	add("a pin twice", func(s *impl.Store) { s.Pins[0] = s.Pins[1] })
	add("too many pins", func(s *impl.Store) { s.Pins = strings.Fields("p0 p1 p2 p3 p4 p5 p6 p7 p8 p9 pa") })
	for _, pin := range []string{"", "p", "p11", strings.Repeat("p", 5000)} {
		add(fmt.Sprintf("a first pin of %d bytes", len(pin)), func(s *impl.Store) { s.Pins = []string{pin, "p2"} })
		add(fmt.Sprintf("a last pin of %d bytes", len(pin)), func(s *impl.Store) { s.Pins = []string{"a1", pin} })
		add(fmt.Sprintf("one pin of %d bytes", len(pin)), func(s *impl.Store) { s.Pins = []string{pin} })
	}
	return out
}

func TestWrongStores(t *testing.T) {
	for what, s := range wrongStores(t) {
		if wantValid(s) || impl.ValidStore(s) {
			t.Errorf("%s: valid", what)
		}
		if needed := impl.Needed(s); len(needed) != 0 {
			t.Errorf("%s: needed %x", what, needed)
		}
		for _, text := range []string{"aaa", "new", "", strings.Repeat("x", 50), sameSum(t, "aaa", 2)} {
			for _, now := range []int{3, -1} {
				if got, code := impl.Put(s, text, now); code != 1 || !sameStore(got, impl.Store{}) {
					t.Errorf("%s, put %.20q: code %d, %s", what, text, code, shortStore(got))
				}
				for _, sum := range []string{impl.Sum(text, 2), impl.Sum(text, s.Width), ""} {
					if text, got, ok := impl.Get(s, sum, now); ok || text != "" || !sameStore(got, impl.Store{}) {
						t.Errorf("%s, get %x: %.20q %v, %s", what, sum, text, ok, shortStore(got))
					}
				}
			}
		}
		for _, name := range []string{"p1", "p2", "zz", "", "p", "long name"} {
			if got, code := impl.Pin(s, name); code != 1 || !sameStore(got, impl.Store{}) {
				t.Errorf("%s, pin %q: code %d, %s", what, name, code, shortStore(got))
			}
			if got, code := impl.Unpin(s, name); code != 1 || !sameStore(got, impl.Store{}) {
				t.Errorf("%s, unpin %q: code %d, %s", what, name, code, shortStore(got))
			}
		}
	}
}

func TestRightStores(t *testing.T) {
	long := drawn(1, impl.MaxBlob, allBytes())
	for width := 1; width <= impl.MaxWidth; width++ {
		pins := []string{}
		for i := range impl.MaxPins {
			pins = append(pins, strings.Repeat(string([]byte{byte(i * 28)}), width))
		}
		for _, s := range []impl.Store{
			{Width: width},
			{Width: width, Room: impl.MaxRoom},
			{Width: width, Items: []impl.Item{}, Pins: []string{}},
			{Width: width, Room: 1, Items: []impl.Item{{Text: "a", Used: 0}}},
			{Width: width, Room: impl.MaxBlob, Items: []impl.Item{{Text: long, Used: impl.MaxTime}}},
			{Width: width, Pins: pins},
			{Width: width, Pins: pins[:1]},
		} {
			if !wantValid(s) || !impl.ValidStore(s) {
				t.Errorf("%s: not valid", shortStore(s))
			}
			checkNeeded(t, s)
		}
	}
}

func TestCodesInTheirOrder(t *testing.T) {
	clash := sameSum(t, "text", 1)
	s := withPins(storeOf(t, 1, len("text"), "text"), impl.Sum("text", 1))
	for i, c := range []struct {
		s    impl.Store
		text string
		now  int
		want int
	}{
		{s, clash, 5, 2},
		{s, clash, -1, 1},
		{s, clash, impl.MaxTime + 1, 1},
		{withRoom(s, 3), clash, 5, 1},
		{s, "text", 5, 0},
		{s, "text", -1, 1},
		{s, "", 5, 1},
		{s, "more than room", 5, 3},
		{s, "more than room", -5, 1},
		{s, strings.Repeat("x", impl.MaxBlob+1), 5, 1},
		{s, strings.Repeat("x", impl.MaxBlob), 5, 3},
	} {
		if _, code := checkPut(t, c.s, c.text, c.now); code != c.want {
			t.Errorf("case %d: code %d, not %d", i, code, c.want)
		}
	}
}

func TestManyCallsOnStores(t *testing.T) {
	codes := map[string]int{}
	for seed := range 240 {
		width := seed%impl.MaxWidth + 1
		pool := []string{}
		for i := range 40 {
			pool = append(pool, drawn(seed*100+i, 1+i*i%37, lowLetters[:2+i%9]))
		}
		for i := range 8 {
			pool = append(pool, formOf(width, pool[i], pool[2*i], pool[3*i+5]))
		}
		s := impl.Store{Width: width, Room: 40 + seed*3}
		choices := drawn(seed, 400, allBytes())
		for i := 0; i+4 <= len(choices); i += 4 {
			text := pool[int(choices[i+1])%len(pool)]
			now := int(choices[i+2]) * int(choices[i+3]) % 50
			next, code := s, 0
			switch kind := choices[i] % 16; {
			case kind < 9:
				next, code = checkPut(t, s, text, now)
				codes["put "+strconv.Itoa(code)]++
			case kind < 12:
				ok := false
				if next, ok = checkGet(t, s, impl.Sum(text, width), now); !ok {
					code = -1
				}
				codes["get "+strconv.Itoa(code)]++
			case kind < 14:
				next, code = checkPin(t, s, impl.Sum(text, width))
				codes["pin "+strconv.Itoa(code)]++
			default:
				name := impl.Sum(text, width)
				if len(s.Pins) > 0 && choices[i+3]%4 > 0 {
					name = s.Pins[int(choices[i+3])%len(s.Pins)]
				}
				next, code = checkUnpin(t, s, name)
				codes["unpin "+strconv.Itoa(code)]++
			}
			if code == 0 {
				s = next
			}
			if !impl.ValidStore(s) {
				t.Fatalf("not valid: %s", shortStore(s))
			}
			checkNeeded(t, s)
		}
		if t.Failed() {
			return
		}
	}
	for _, code := range []string{"put 0", "put 2", "put 3", "get 0", "get -1", "pin 0", "pin 2", "unpin 0", "unpin 2"} {
		if codes[code] < 10 {
			t.Errorf("these calls ask for too little: %s %d times", code, codes[code])
		}
	}
}

// roomy is a store whose lists have room behind their ends, with what stands there.
func roomy(s impl.Store) (impl.Store, func() bool) {
	items := append(slices.Clone(s.Items), impl.Item{Text: "behind", Used: 1}, impl.Item{Text: "that", Used: 2})
	pins := append(slices.Clone(s.Pins), "behind", "that")
	itemsBefore, pinsBefore := slices.Clone(items), slices.Clone(pins)
	s.Items, s.Pins = items[:len(s.Items)], pins[:len(s.Pins)]
	return s, func() bool { return !slices.Equal(items, itemsBefore) || !slices.Equal(pins, pinsBefore) }
}

func TestStoresLeaveArgumentsAlone(t *testing.T) {
	form := formOf(8, "bbb", "ddd")
	s, changed := roomy(withPins(storeOf(t, 8, len(form)+9, "aaa", "bbb", "ccc", form), impl.Sum(form, 8), "pinned 8"))
	for _, text := range []string{"aaa", "e", "eeeeee", form, "", strings.Repeat("e", 200)} {
		w := watch(text)
		impl.Put(s, w.text, 3)
		if changed() || w.changed() {
			t.Errorf("Put %.20q: an argument was written into", text)
		}
		name := watch(impl.Sum(text, 8))
		impl.Get(s, name.text, 3)
		impl.Pin(s, name.text)
		impl.Unpin(s, name.text)
		if changed() || name.changed() {
			t.Errorf("Get, Pin, Unpin of %.20q: an argument was written into", text)
		}
	}
	for _, name := range []string{"pinned 8", "aaaaaaaa", "zzzzzzzz", impl.Sum(form, 8)} {
		impl.Pin(s, name)
		impl.Unpin(s, name)
	}
	impl.ValidStore(s)
	impl.Needed(s)
	if changed() {
		t.Error("an argument was written into")
	}
}

// checkNewStore overwrites all the room of one answer, and asks for another one.
func checkNewStore(t *testing.T, what string, given impl.Store, answer func() impl.Store) {
	t.Helper()
	before, want := copyStore(given), copyStore(answer())
	one, other := answer(), answer()
	for i, items := 0, one.Items[:cap(one.Items)]; i < len(items); i++ {
		items[i] = impl.Item{Text: "overwritten", Used: -1}
	}
	for i, pins := 0, one.Pins[:cap(one.Pins)]; i < len(pins); i++ {
		pins[i] = "overwritten"
	}
	if !sameStore(other, want) || !sameStore(given, before) || !sameStore(answer(), want) {
		t.Errorf("%s: an answer shares a list", what)
	}
	for _, item := range other.Items {
		for _, old := range given.Items {
			if shareMemory(item.Text, old.Text) {
				t.Errorf("%s: the text %.20q is shared", what, item.Text)
			}
		}
	}
	for _, pin := range other.Pins {
		for _, old := range given.Pins {
			if shareMemory(pin, old) {
				t.Errorf("%s: the pin %x is shared", what, pin)
			}
		}
	}
}

func TestStoresAreNewMemory(t *testing.T) {
	form := formOf(8, "bbb", "ddd")
	s, _ := roomy(withPins(storeOf(t, 8, len(form)+9, "aaa", "bbb", "ccc", form), impl.Sum(form, 8), "pinned 8"))
	name := strings.Clone("new pin ")
	put := strings.Clone("put in")
	checkNewStore(t, "Put again", s, func() impl.Store { x, _ := impl.Put(s, "aaa", 3); return x })
	checkNewStore(t, "Put", s, func() impl.Store { x, _ := impl.Put(s, put, 3); return x })
	checkNewStore(t, "Get", s, func() impl.Store { _, x, _ := impl.Get(s, impl.Sum("bbb", 8), 3); return x })
	checkNewStore(t, "Pin", s, func() impl.Store { x, _ := impl.Pin(s, name); return x })
	checkNewStore(t, "Pin again", s, func() impl.Store { x, _ := impl.Pin(s, "pinned 8"); return x })
	checkNewStore(t, "Unpin", s, func() impl.Store { x, _ := impl.Unpin(s, "pinned 8"); return x })
	with, _ := impl.Put(s, put, 3)
	if at := placeOf(with, impl.Sum(put, 8)); shareMemory(with.Items[at].Text, put) {
		t.Error("the text that was put in is shared")
	}
	pinned, _ := impl.Pin(s, name)
	if at := slices.Index(pinned.Pins, name); shareMemory(pinned.Pins[at], name) {
		t.Error("the name that was pinned is shared")
	}
	text, got, ok := impl.Get(s, impl.Sum("bbb", 8), 3)
	if !ok {
		t.Fatal("it must be got")
	}
	for _, item := range append(got.Items, s.Items...) {
		if shareMemory(text, item.Text) {
			t.Error("the text that was got is shared")
		}
	}
	one, want := impl.Needed(s), slices.Clone(impl.Needed(s))
	for i, room := 0, one[:cap(one)]; i < len(room); i++ {
		room[i] = "overwritten"
	}
	if !slices.Equal(impl.Needed(s), want) || !slices.Contains(s.Pins, "pinned 8") {
		t.Error("what is needed is shared")
	}
	for _, sum := range impl.Needed(s) {
		for _, pin := range s.Pins {
			if shareMemory(sum, pin) {
				t.Error("a needed sum is shared")
			}
		}
	}
}

func TestStoresKeepNothing(t *testing.T) {
	s := storeOf(t, 8, 9, "aaa", "bbb", "ccc")
	want, _ := wantPut(s, "d", 4)
	for range 3 {
		impl.Put(s, "eeeee", 1)
		impl.Pin(s, impl.Sum("aaa", 8))
		impl.Get(s, impl.Sum("aaa", 8), 900)
		impl.Put(s, "aaa", 900)
		if got, code := impl.Put(s, "d", 4); code != 0 || !sameStore(got, want) {
			t.Errorf("code %d, %s", code, shortStore(got))
		}
		if needed := impl.Needed(s); len(needed) != 0 {
			t.Errorf("needed %x", needed)
		}
	}
}
