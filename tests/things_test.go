package tests

import (
	"fmt"
	"math"
	"slices"
	"strconv"
	"strings"
	"testing"

	"loop.example/kilnpass/impl"
)

// wantSave makes the calls that the document names, one behind the other.
func wantSave(s impl.Store, text string, now int) (impl.Store, int) {
	if !wantValid(s) || len(text) > 3000 || now < 0 || now > 1000000 {
		return impl.Store{}, 1
	}
	form := wantForm(wantList(text, s.Width))
	s, code := wantPin(s, impl.Sum(form, s.Width))
	for _, part := range append([]string{form}, wantPieces(text)...) {
		if code == 0 {
			s, code = wantPut(s, part, now)
		}
	}
	if code != 0 {
		return impl.Store{}, code
	}
	return s, 0
}

// listAt is the list under a name, if there is one.
func listAt(s impl.Store, name string) (impl.List, bool) {
	at := placeOf(s, name)
	if !wantValid(s) || at < 0 {
		return impl.List{}, false
	}
	return wantRead(s.Items[at].Text, s.Width)
}

func wantLacks(s impl.Store, name string) []string {
	if !wantValid(s) || len(name) != s.Width {
		return nil
	}
	l, ok := listAt(s, name)
	if !ok {
		return []string{name}
	}
	out := []string{}
	for _, sum := range l.Sums {
		if placeOf(s, sum) < 0 && !slices.Contains(out, sum) {
			out = append(out, sum)
		}
	}
	return out
}

func wantLoad(s impl.Store, name string) (string, bool) {
	l, ok := listAt(s, name)
	text := ""
	for _, sum := range l.Sums {
		at := placeOf(s, sum)
		if at < 0 {
			return "", false
		}
		text += s.Items[at].Text
	}
	if !ok || len(text) > 3000 || !sameList(wantList(text, s.Width), l) {
		return "", false
	}
	return text, true
}

func checkSave(t *testing.T, s impl.Store, text string, now int) (impl.Store, int) {
	t.Helper()
	what := fmt.Sprintf("Save %d bytes %.20q at %d", len(text), text, now)
	got, code := impl.Save(s, text, now)
	want, wantCode := wantSave(s, text, now)
	checkAnswer(t, what, s, got, want, code, wantCode)
	if code == 0 {
		checkSaved(t, what, got, text)
	}
	return got, code
}

// checkSaved asks for a thing that is pinned and all there.
func checkSaved(t *testing.T, what string, s impl.Store, text string) {
	t.Helper()
	name := impl.Name(text, s.Width)
	if !slices.Contains(s.Pins, name) {
		t.Errorf("%s: the name is not pinned in %s", what, shortStore(s))
	}
	if loaded, ok := checkLoad(t, s, name); !ok || loaded != text {
		t.Errorf("%s: %d bytes %.20q %v is loaded, not %d bytes %.20q", what, len(loaded), loaded, ok, len(text), text)
	}
}

// checkLoad asks for Load and Lacks of a name, and holds one against the other.
func checkLoad(t *testing.T, s impl.Store, name string) (string, bool) {
	t.Helper()
	text, ok := impl.Load(s, name)
	want, wantOk := wantLoad(s, name)
	if text != want || ok != wantOk {
		t.Errorf("Load %x of %s: %.20q %v, not %.20q %v", name, shortStore(s), text, ok, want, wantOk)
	}
	lacks := impl.Lacks(s, name)
	if want := wantLacks(s, name); !slices.Equal(lacks, want) {
		t.Errorf("Lacks %x of %s: %s, not %s", name, shortStore(s), shortSums(lacks), shortSums(want))
	}
	if ok && len(lacks) != 0 {
		t.Errorf("Load %x of %s is true, and lacks %s", name, shortStore(s), shortSums(lacks))
	}
	if ok && impl.Name(text, s.Width) != name {
		t.Errorf("Load %x of %s: %.20q has another name", name, shortStore(s), text)
	}
	return text, ok
}

// lacksJust asks for these sums, and that nothing is loaded.
func lacksJust(t *testing.T, what string, s impl.Store, name string, sums ...string) {
	t.Helper()
	if _, ok := checkLoad(t, s, name); ok {
		t.Errorf("%s: it is loaded", what)
	}
	if lacks := impl.Lacks(s, name); !slices.Equal(lacks, sums) {
		t.Errorf("%s: lacks %s, not %s", what, shortSums(lacks), shortSums(sums))
	}
}

// without is the store without the item of this text.
func without(s impl.Store, text string) impl.Store {
	s = copyStore(s)
	s.Items = slices.DeleteFunc(s.Items, func(item impl.Item) bool { return item.Text == text })
	return s
}

// withTexts is the store with these texts more.
func withTexts(s impl.Store, texts ...string) impl.Store {
	for _, text := range texts {
		s = withItem(s, impl.Item{Text: text, Used: 5})
	}
	return s
}

// wholeSize is the number of bytes that a thing takes in a store.
func wholeSize(text string, width int) int {
	size := len(wantForm(wantList(text, width)))
	seen := map[string]int{}
	for _, p := range wantPieces(text) {
		if seen[p]++; seen[p] == 1 {
			size += len(p)
		}
	}
	return size
}

func TestSaveAtEveryWidth(t *testing.T) {
	p, q := block(1), block(2)
	for width := 1; width <= impl.MaxWidth; width++ {
		saved := 0
		for _, text := range []string{"", "a", "short", p, p + q, p + "end", p + q + p + p + "end", uncut(64, ""), uncut(200, ""), strings.Repeat("abcdefghij", 20),
			drawn(3, 400, lowLetters), drawn(4, 1500, lowLetters), drawn(4, impl.MaxThing, allBytes()), strings.Repeat(p, impl.MaxPieces)} {
			s := impl.Store{Width: width, Room: 30000}
			lacksJust(t, "ahead of Save", s, impl.Name(text, width), impl.Name(text, width))
			for _, s := range []impl.Store{s, storeOf(t, width, 30000, "other", "texts here")} {
				got, code := checkSave(t, s, text, 7)
				if code == 0 {
					saved++
				} else if code != 2 || width > 2 {
					t.Errorf("width %d, %d bytes: code %d", width, len(text), code)
				}
				if again, code := checkSave(t, got, text, 3); width > 2 && (code != 0 || len(again.Items) != len(got.Items)) {
					t.Errorf("width %d, %d bytes, saved again: code %d", width, len(text), code)
				}
			}
		}
		if saved < 16 {
			t.Errorf("width %d: only %d are saved", width, saved)
		}
	}
}

func TestSaveOfLimits(t *testing.T) {
	long := drawn(9, impl.MaxThing+1, allBytes())
	for width := 3; width <= impl.MaxWidth; width++ {
		s := impl.Store{Width: width, Room: impl.MaxRoom}
		for _, text := range []string{"", long[:1], long[:impl.MaxThing-1], long[:impl.MaxThing], strings.Repeat(block(4), impl.MaxPieces)} {
			if _, code := checkSave(t, s, text, 0); code != 0 {
				t.Errorf("width %d, %d bytes: code %d", width, len(text), code)
			}
		}
		for _, text := range []string{long, long + long, strings.Repeat("x", impl.MaxBlob), strings.Repeat("x", 100000)} {
			if _, code := checkSave(t, s, text, 0); code != 1 {
				t.Errorf("width %d, %d bytes: code %d", width, len(text), code)
			}
		}
		for _, now := range []int{0, 1, impl.MaxTime - 1, impl.MaxTime} {
			got, code := checkSave(t, s, long[:100], now)
			if code != 0 || got.Items[0].Used != now {
				t.Errorf("width %d at %d: code %d", width, now, code)
			}
		}
		for _, now := range []int{-1, impl.MaxTime + 1, math.MinInt, math.MaxInt} {
			for _, text := range []string{"", long[:100], long} {
				if _, code := checkSave(t, s, text, now); code != 1 {
					t.Errorf("width %d at %d: code %d", width, now, code)
				}
			}
		}
	}
}

func TestSaveOfTheEmptyText(t *testing.T) {
	for width := 1; width <= impl.MaxWidth; width++ {
		got, code := checkSave(t, impl.Store{Width: width, Room: 7}, "", 1)
		if code != 0 || len(got.Items) != 1 || got.Items[0].Text != "size 0\n" || len(got.Pins) != 1 {
			t.Errorf("width %d: code %d, %s", width, code, shortStore(got))
		}
		if needed := checkNeeded(t, got); len(needed) != 1 {
			t.Errorf("width %d: needed %x", width, needed)
		}
		if _, code := checkSave(t, impl.Store{Width: width, Room: 6}, "", 1); code != 3 {
			t.Errorf("width %d, one byte less: code %d", width, code)
		}
	}
}

func TestSaveInTheRoomThatThereIs(t *testing.T) {
	for seed := range 40 {
		width := 3 + seed%6
		text := drawn(seed, 20+seed*30, lowLetters)
		if seed%4 == 0 {
			text = strings.Repeat(block(seed), seed+1) + "end"
		}
		size := wholeSize(text, width)
		fits := impl.Store{Width: width, Room: size}
		got, code := checkSave(t, fits, text, 4)
		if code != 0 || bytesOf(got) != size {
			t.Errorf("%d bytes, width %d: code %d, %d bytes of %d", len(text), width, code, bytesOf(got), size)
		}
		if _, code := checkSave(t, withRoom(fits, size-1), text, 4); code != 3 {
			t.Errorf("%d bytes, width %d, one byte less: code %d", len(text), width, code)
		}
		// All that is not needed goes, whenever it was used.
		full := withItem(fits, impl.Item{Text: drawn(seed+900, size, allBytes()), Used: impl.MaxTime})
		if _, code := checkSave(t, full, text, 0); code != 0 {
			t.Errorf("%d bytes, width %d, over another text: code %d", len(text), width, code)
		}
		pinned := withPins(withItem(withRoom(fits, size+5), impl.Item{Text: "pinned", Used: 0}), impl.Sum("pinned", width))
		if _, code := checkSave(t, pinned, text, 9); code != 3 {
			t.Errorf("%d bytes, width %d, beside what is needed: code %d", len(text), width, code)
		}
		if _, code := checkSave(t, withRoom(pinned, size+6), text, 9); code != 0 {
			t.Errorf("%d bytes, width %d, beside what is needed, and room: code %d", len(text), width, code)
		}
	}
}

// TestSaveOverItsOwnPieces: until the list is there its pieces are not needed, and they are put in again behind it.
func TestSaveOverItsOwnPieces(t *testing.T) {
	text := drawn(3, 300, lowLetters)
	size := wholeSize(text, 8)
	s := impl.Store{Width: 8, Room: size}
	for i, p := range wantPieces(text) {
		s = withItem(s, impl.Item{Text: p, Used: i})
	}
	s = withItem(s, impl.Item{Text: drawn(4, size-bytesOf(s), allBytes()), Used: 900})
	got, code := checkSave(t, s, text, 950)
	if code != 0 || len(got.Items) != len(wantPieces(text))+1 {
		t.Errorf("code %d, %s", code, shortStore(got))
	}
}

func TestSaveOfOnePieceOften(t *testing.T) {
	p, q := block(1), block(2)
	for width := 3; width <= impl.MaxWidth; width++ {
		text := p + q + p + p + "end"
		s := impl.Store{Width: width, Room: 1000}
		got, code := checkSave(t, s, text, 4)
		if code != 0 || len(got.Items) != 4 {
			t.Errorf("width %d: code %d, %s", width, code, shortStore(got))
		}
		name := impl.Name(text, width)
		lacksJust(t, "a piece that is there thrice", without(got, p), name, impl.Sum(p, width))
		lacksJust(t, "two pieces", without(without(got, p), q), name, impl.Sum(p, width), impl.Sum(q, width))
		lacksJust(t, "all pieces", without(without(without(got, "end"), p), q), name, impl.Sum(p, width), impl.Sum(q, width), impl.Sum("end", width))
		most := strings.Repeat(p, impl.MaxPieces)
		if got, code = checkSave(t, withRoom(s, impl.MaxRoom), most, 4); code != 0 || len(got.Items) != 2 {
			t.Errorf("width %d: code %d, %s", width, code, shortStore(got))
		}
		lacksJust(t, "the only piece", without(got, p), impl.Name(most, width), impl.Sum(p, width))
	}
}

func TestLacksInItsOrder(t *testing.T) {
	for seed := range 12 {
		width := 3 + seed%6
		text := drawn(seed, 900, lowLetters)
		pieces := wantPieces(text)
		saved, code := checkSave(t, impl.Store{Width: width, Room: impl.MaxRoom}, text, 1)
		if code != 0 || len(pieces) < 5 {
			t.Fatalf("seed %d: code %d, %d pieces", seed, code, len(pieces))
		}
		s := saved
		name := impl.Name(text, width)
		missing := []string{}
		for i, p := range pieces {
			lacksJust(t, "one piece", without(saved, p), name, impl.Sum(p, width))
			if (i+seed)%3 != 0 {
				s = without(s, p)
				missing = append(missing, impl.Sum(p, width))
				lacksJust(t, "more and more pieces", s, name, missing...)
			}
		}
		if slices.IsSorted(missing) {
			t.Error("the order of the list must not be that of the sums")
		}
		lacksJust(t, "the list, too", without(s, wantForm(wantList(text, width))), name, name)
	}
}

func TestLoadOfWhatIsNoList(t *testing.T) {
	for width := 3; width <= impl.MaxWidth; width++ {
		text := drawn(2, 200, lowLetters)
		form := wantForm(wantList(text, width))
		wide := wantForm(wantList(text, width%impl.MaxWidth+1))
		s := storeOf(t, width, 3000, "some text", form[:len(form)-1], form+"\n", wide, " "+form)
		s = withTexts(s, wantPieces(text)...)
		for _, item := range s.Items {
			sum := impl.Sum(item.Text, width)
			lacksJust(t, "an item that is no list", s, sum, sum)
			lacksJust(t, "one that is pinned", withPins(s, sum), sum, sum)
		}
		name := impl.Name(text, width)
		lacksJust(t, "no item", s, name, name)
		lacksJust(t, "a pin and no item", withPins(s, name), name, name)
		if loaded, ok := checkLoad(t, withTexts(s, form), name); !ok || loaded != text {
			t.Errorf("width %d: %.20q %v", width, loaded, ok)
		}
	}
}

// TestLoadOfAnotherThing: all the pieces are there, but what is put together is not what the list says.
func TestLoadOfAnotherThing(t *testing.T) {
	p, q := block(1), block(2)
	for width := 3; width <= impl.MaxWidth; width++ {
		sums := func(texts ...string) []string { return listOf(texts, width).Sums }
		s := storeOf(t, width, 5000, p, q, "abc", "def", "abcdef", uncut(64, "")+p)
		for _, c := range []struct {
			what string
			l    impl.List
			want string
			ok   bool
		}{
			{"the thing itself", impl.List{Size: 16, Sums: sums(p, q)}, p + q, true},
			{"one piece", impl.List{Size: 6, Sums: sums("abcdef")}, "abcdef", true},
			{"a size that is one more", impl.List{Size: 17, Sums: sums(p, q)}, "", false},
			{"a size that is one less", impl.List{Size: 15, Sums: sums(p, q)}, "", false},
			{"pieces that are cut elsewhere", impl.List{Size: 6, Sums: sums("abc", "def")}, "", false},
			{"a piece that is cut in two", impl.List{Size: 72, Sums: sums(uncut(64, "") + p)}, "", false},
			{"a size and no pieces", impl.List{Size: 5}, "", false},
			{"no size and a piece", impl.List{Size: 0, Sums: sums(p)}, "", false},
		} {
			form := impl.FormList(c.l, width)
			name := impl.Sum(form, width)
			with := withTexts(s, form)
			text, ok := checkLoad(t, with, name)
			if text != c.want || ok != c.ok {
				t.Errorf("width %d, %s: %.20q %v", width, c.what, text, ok)
			}
			if lacks := impl.Lacks(with, name); len(lacks) != 0 {
				t.Errorf("width %d, %s: lacks %x", width, c.what, lacks)
			}
			checkKept(t, c.what, withPins(with, name), withPins(with, name))
		}
	}
}

// TestLoadOfClashingPiece: another text stands under a piece's sum, so nothing is lacked, and nothing loaded.
func TestLoadOfClashingPiece(t *testing.T) {
	p := block(1)
	for width := 1; width <= 2; width++ {
		text := p + "end"
		form := wantForm(wantList(text, width))
		other := sameSum(t, "end", width)
		s := storeOf(t, width, 1000, form, p)
		lacksJust(t, "the last piece", s, impl.Sum(form, width), impl.Sum("end", width))
		lacksJust(t, "another text in its place", withTexts(s, other), impl.Sum(form, width))
		if _, code := checkSave(t, withTexts(s, other), text, 3); code != 2 {
			t.Errorf("width %d: code %d", width, code)
		}
	}
	// Two texts of one size, with one whole sum: the second is the thing with this name, too.
	for _, pair := range wholeClashes()[:2] {
		for width := 3; width <= impl.MaxWidth; width++ {
			s, code := checkSave(t, impl.Store{Width: width, Room: 100}, pair[0], 1)
			if code != 0 || impl.Name(pair[0], width) != impl.Name(pair[1], width) {
				t.Fatalf("code %d", code)
			}
			other := withTexts(without(s, pair[0]), pair[1])
			if text, ok := checkLoad(t, other, impl.Name(pair[0], width)); !ok || text != pair[1] {
				t.Errorf("width %d: %q %v", width, text, ok)
			}
			if _, code := checkSave(t, s, pair[1], 1); code != 2 {
				t.Errorf("width %d, the other one: code %d", width, code)
			}
		}
	}
}

// TestPieceThatReadsLikeList: what stands under a list's sums is a piece, whatever it says.
func TestPieceThatReadsLikeList(t *testing.T) {
	for width := 3; width <= impl.MaxWidth; width++ {
		inner := "size 9\n" + strings.Repeat("0f", width) + "\n"
		if len(wantPieces(inner)) != 1 {
			t.Fatalf("width %d: the text must be one piece", width)
		}
		s, code := checkSave(t, impl.Store{Width: width, Room: 200}, inner, 1)
		if code != 0 || len(s.Items) != 2 {
			t.Errorf("width %d: code %d, %s", width, code, shortStore(s))
		}
		if text, ok := checkLoad(t, s, impl.Name(inner, width)); !ok || text != inner {
			t.Errorf("width %d: %q %v", width, text, ok)
		}
		if lacks := impl.Lacks(s, impl.Name(inner, width)); len(lacks) != 0 {
			t.Errorf("width %d: lacks %x", width, lacks)
		}
		// By its own sum it is a list.
		lacksJust(t, "the piece as a list", s, impl.Sum(inner, width), strings.Repeat("\x0f", width))
	}
}

func TestThingsOfNamesOfAnotherSize(t *testing.T) {
	for width := 1; width <= impl.MaxWidth; width++ {
		text := "a thing"
		s, code := checkSave(t, impl.Store{Width: width, Room: 1000}, text, 1)
		if code != 0 {
			t.Fatalf("width %d: code %d", width, code)
		}
		names := []string{"", strings.Repeat("n", 5000)}
		for size := 1; size <= impl.MaxWidth+2; size++ {
			if size != width {
				names = append(names, impl.Name(text, size), strings.Repeat("n", size), strings.Repeat("\x00", size))
			}
		}
		for _, name := range names {
			if len(name) != width {
				lacksJust(t, "a name of another size", s, name)
			}
		}
		lacksJust(t, "a name of this size", s, strings.Repeat("\x00", width), strings.Repeat("\x00", width))
	}
}

func TestThingsOfWrongStores(t *testing.T) {
	for what, s := range wrongStores(t) {
		for _, text := range []string{"", "a thing", strings.Repeat("x", impl.MaxThing+1)} {
			for _, now := range []int{3, -1} {
				if got, code := impl.Save(s, text, now); code != 1 || !sameStore(got, impl.Store{}) {
					t.Errorf("%s, save %.20q: code %d, %s", what, text, code, shortStore(got))
				}
			}
		}
		for _, name := range []string{"p1", "", impl.Name("a thing", 2), impl.Sum("aaa", 2), strings.Repeat("n", 8)} {
			if text, ok := impl.Load(s, name); ok || text != "" {
				t.Errorf("%s, load %q: %q %v", what, name, text, ok)
			}
			if lacks := impl.Lacks(s, name); len(lacks) != 0 {
				t.Errorf("%s, lacks %q: %q", what, name, lacks)
			}
		}
	}
	// A thing that is all there, in a store that is not valid for another reason.
	text := drawn(1, 100, lowLetters)
	s, _ := checkSave(t, impl.Store{Width: 8, Room: 1000}, text, 1)
	wrong := withRoom(s, bytesOf(s)-1)
	if loaded, ok := impl.Load(wrong, impl.Name(text, 8)); ok || loaded != "" {
		t.Errorf("%.20q %v", loaded, ok)
	}
	if lacks := impl.Lacks(wrong, "12345678"); len(lacks) != 0 {
		t.Errorf("lacks %x", lacks)
	}
}

func TestCodesOfSave(t *testing.T) {
	text := block(1) + block(2)
	full := impl.Store{Width: 8, Room: 1000}
	for i := range impl.MaxPins {
		full = withPins(full, "pinned "+strconv.Itoa(i))
	}
	if _, code := checkSave(t, full, text, 1); code != 2 {
		t.Errorf("one pin too many: code %d", code)
	}
	if _, code := checkSave(t, withRoom(full, 0), text, 1); code != 2 {
		t.Errorf("one pin too many, and no room: code %d", code)
	}
	if _, code := checkSave(t, full, text, -1); code != 1 {
		t.Errorf("one pin too many, at -1: code %d", code)
	}
	if _, code := checkSave(t, full, strings.Repeat("x", impl.MaxThing+1), 1); code != 1 {
		t.Errorf("one pin too many, a text too long: code %d", code)
	}
	// The name is one of MaxPins pins: it is pinned already.
	own := withPins(full, impl.Name(text, 8))
	own.Pins = slices.DeleteFunc(own.Pins, func(pin string) bool { return pin == "pinned 3" })
	if got, code := checkSave(t, own, text, 1); code != 0 || len(got.Pins) != impl.MaxPins {
		t.Errorf("pinned already: code %d", code)
	}
	// The first call that has a code tells: no room for a piece, ahead of another text in the place of a later one.
	pair := wholeClashes()[0]
	thing := drawn(7, 64, lowLetters) + pair[0]
	for seed := 8; wantPieces(thing)[len(wantPieces(thing))-1] != pair[0]; seed++ {
		thing = drawn(seed, 64, lowLetters) + pair[0]
	}
	clash := withItem(impl.Store{Width: 8, Room: 1000}, impl.Item{Text: pair[1], Used: 9})
	if _, code := checkSave(t, clash, thing, 1); code != 2 {
		t.Errorf("another text in the place of the last piece: code %d", code)
	}
	small := withRoom(clash, len(wantForm(wantList(thing, 8)))+len(pair[1])+len(wantPieces(thing)[0])-1)
	if _, code := checkSave(t, small, thing, 1); code != 3 {
		t.Errorf("no room for the first piece: code %d", code)
	}
	form := wantForm(wantList(text, 1))
	wrong := withItem(impl.Store{Width: 1, Room: 1000}, impl.Item{Text: sameSum(t, form, 1), Used: 9})
	if _, code := checkSave(t, wrong, text, 1); code != 2 {
		t.Errorf("another text in the place of the list: code %d", code)
	}
}

// TestPinnedThingsStay saves some things and then does many other calls.
func TestPinnedThingsStay(t *testing.T) {
	codes := map[string]int{}
	for seed := range 60 {
		width := 2 + seed%7
		s := impl.Store{Width: width, Room: 700 + 20*seed}
		kept := []string{}
		choices := drawn(seed, 240, allBytes())
		for i := 0; i+4 <= len(choices); i += 4 {
			a, b, now := int(choices[i+1]), int(choices[i+2]), int(choices[i+3])*7%90
			// Things that end alike share pieces, so that one needs what another one gave up.
			thing := drawn(seed*50+a%6, a%200, lowLetters) + drawn(seed, 150, lowLetters)[b%150:]
			next, code := s, 0
			switch kind := choices[i] % 16; {
			case kind < 4:
				if next, code = checkSave(t, s, thing, now); code == 0 && !slices.Contains(kept, thing) {
					kept = append(kept, thing)
				}
				codes["save "+strconv.Itoa(code)]++
			case kind < 11:
				next, code = checkPut(t, s, drawn(a, 1+b, lowLetters), now)
			case kind < 13 && len(s.Items) > 0:
				checkGet(t, s, impl.Sum(s.Items[a%len(s.Items)].Text, width), now)
				_, next, _ = impl.Get(s, impl.Sum(s.Items[a%len(s.Items)].Text, width), now)
			case kind == 13:
				next, code = checkPin(t, s, impl.Sum(drawn(a, 1+b, lowLetters), width))
			case kind == 14 && len(kept) > 2:
				name := impl.Name(kept[a%len(kept)], width)
				next, code = checkUnpin(t, s, name)
				kept = slices.DeleteFunc(kept, func(text string) bool { return impl.Name(text, width) == name })
				codes["unpin "+strconv.Itoa(code)]++
			case kind == 15 && len(s.Pins) > 0:
				name := s.Pins[a%len(s.Pins)]
				if !slices.ContainsFunc(kept, func(text string) bool { return impl.Name(text, width) == name }) {
					next, code = checkUnpin(t, s, name)
				}
			}
			if code == 0 {
				s = next
			}
			for _, text := range kept {
				checkSaved(t, fmt.Sprintf("seed %d, call %d", seed, i/4), s, text)
			}
			checkLoad(t, s, impl.Name(thing, width))
		}
		if t.Failed() {
			return
		}
	}
	for _, code := range []string{"save 0", "save 2", "save 3", "unpin 0"} {
		if codes[code] < 10 {
			t.Errorf("these calls ask for too little: %s %d times", code, codes[code])
		}
	}
}

func TestUnpinnedThingsGo(t *testing.T) {
	text := drawn(3, 300, lowLetters)
	name := impl.Name(text, 8)
	s, _ := checkSave(t, impl.Store{Width: 8, Room: wholeSize(text, 8) + 10}, text, 1)
	if _, code := checkPut(t, s, "more than ten bytes", 2); code != 3 {
		t.Errorf("pinned: code %d", code)
	}
	free, _ := checkUnpin(t, s, name)
	checkSavedStill := func() {
		if loaded, ok := checkLoad(t, free, name); !ok || loaded != text {
			t.Errorf("unpinned, and nothing put in: %.20q %v", loaded, ok)
		}
	}
	checkSavedStill()
	got, code := checkPut(t, free, "more than ten bytes", 2)
	if _, ok := checkLoad(t, got, name); ok || code != 0 {
		t.Errorf("unpinned: code %d, and it is loaded: %v", code, ok)
	}
	back, code := checkSave(t, withRoom(got, 2000), text, 3)
	if loaded, ok := checkLoad(t, back, name); !ok || loaded != text || code != 0 {
		t.Errorf("saved again: code %d, %.20q %v", code, loaded, ok)
	}
}

// TestPinnedTenThings meets MaxPins with things, and takes one more once one is let go.
func TestPinnedTenThings(t *testing.T) {
	s := impl.Store{Width: 8, Room: impl.MaxRoom}
	things := []string{}
	for i := range impl.MaxPins + 1 {
		things = append(things, drawn(i, 1000+i*50, lowLetters))
	}
	code := 0
	for _, text := range things[:impl.MaxPins] {
		if s, code = checkSave(t, s, text, 5); code != 0 {
			t.Fatalf("code %d", code)
		}
	}
	if _, code := checkSave(t, s, things[impl.MaxPins], 5); code != 2 {
		t.Errorf("one more: code %d", code)
	}
	free, _ := checkUnpin(t, s, impl.Name(things[4], 8))
	got, code := checkSave(t, free, things[impl.MaxPins], 5)
	if code != 0 {
		t.Errorf("one less and one more: code %d", code)
	}
	for i, text := range things {
		if i != 4 {
			checkSaved(t, "ten things", got, text)
		}
	}
}

func TestThingsLeaveArgumentsAlone(t *testing.T) {
	text := watch(drawn(3, 200, lowLetters))
	saved, _ := impl.Save(impl.Store{Width: 8, Room: 2000}, text.text, 1)
	s, changed := roomy(withRoom(withPins(withTexts(saved, "other"), "pinned 8"), bytesOf(saved)+5))
	for _, thing := range []string{text.text, "another", drawn(5, 200, lowLetters), "", strings.Repeat("x", 4000)} {
		w := watch(thing)
		impl.Save(s, w.text, 5)
		name := watch(impl.Name(thing, 8))
		impl.Load(s, name.text)
		impl.Lacks(s, name.text)
		if changed() || w.changed() || name.changed() || text.changed() {
			t.Errorf("%.20q: an argument was written into", thing)
		}
	}
}

func TestThingsAreNewMemory(t *testing.T) {
	text := strings.Clone("one piece")
	saved, _ := impl.Save(impl.Store{Width: 8, Room: 2000}, text, 1)
	s, _ := roomy(withPins(withTexts(saved, "other"), "pinned 8"))
	thing := drawn(5, 200, lowLetters)
	checkNewStore(t, "Save", s, func() impl.Store { x, _ := impl.Save(s, thing, 3); return x })
	checkNewStore(t, "Save again", s, func() impl.Store { x, _ := impl.Save(s, text, 3); return x })
	got, _ := impl.Save(s, thing, 3)
	for _, item := range append(got.Items, saved.Items...) {
		if shareMemory(item.Text, thing) || shareMemory(item.Text, text) {
			t.Errorf("%.20q is shared with the thing", item.Text)
		}
	}
	loaded, ok := impl.Load(s, impl.Name(text, 8))
	if !ok || loaded != text {
		t.Fatalf("%q %v", loaded, ok)
	}
	for _, item := range s.Items {
		if shareMemory(loaded, item.Text) {
			t.Error("what is loaded is shared")
		}
	}
	name := strings.Clone("no thing")
	if lacks := impl.Lacks(s, name); len(lacks) != 1 || shareMemory(lacks[0], name) {
		t.Errorf("%q is shared", lacks)
	}
	long := impl.FormList(impl.Describe(thing, 8), 8)
	part := withTexts(s, long)
	one, want := impl.Lacks(part, impl.Sum(long, 8)), slices.Clone(impl.Lacks(part, impl.Sum(long, 8)))
	for i, room := 0, one[:cap(one)]; i < len(room); i++ {
		room[i] = "overwritten"
	}
	if len(want) < 2 || !slices.Equal(impl.Lacks(part, impl.Sum(long, 8)), want) {
		t.Errorf("%x: what is lacked is shared", want)
	}
}

func TestThingsKeepNothing(t *testing.T) {
	text := drawn(5, 200, lowLetters)
	s := impl.Store{Width: 8, Room: 2000}
	for range 3 {
		if _, code := impl.Save(s, text, 3); code != 0 {
			t.Errorf("code %d", code)
		}
		lacksJust(t, "a store that nothing was saved in", s, impl.Name(text, 8), impl.Name(text, 8))
	}
}
