package tests

import (
	"fmt"
	"math/bits"
	"runtime"
	"slices"
	"strings"
	"sync"
	"testing"
	"time"

	"loop.example/kilnpass/impl"
)

// talkOf is what comes of two sets by a row of notes that are heard one by one, and whether two different lists that
// were held against each other had one Mix.
func talkOf(a, b []string, width int) (impl.Talk, bool) {
	type letter struct {
		toA  bool
		note impl.Note
	}
	row := []letter{{false, wantTell(a, "", "", width)}}
	talk, fooled := impl.Talk{}, false
	for ; talk.Notes < len(row); talk.Notes++ {
		now := row[talk.Notes]
		listener, teller := b, a
		if now.toA {
			listener, teller = a, b
		}
		told, theirs, ours := wantHear(listener, now.note, width)
		for _, note := range told {
			row = append(row, letter{!now.toA, note})
		}
		if now.toA {
			theirs, ours = ours, theirs
		}
		talk.OnlyA, talk.OnlyB = append(talk.OnlyA, theirs...), append(talk.OnlyB, ours...)
		x, y := wantThere(listener, now.note.From, now.note.To), wantThere(teller, now.note.From, now.note.To)
		fooled = fooled || !now.note.Has && !slices.Equal(x, y) && wantMix(x, width) == wantMix(y, width)
	}
	slices.Sort(talk.OnlyA)
	slices.Sort(talk.OnlyB)
	return talk, fooled
}

// mostNotes is the bound of the promise, for so many sums that one has and the other has not.
func mostNotes(a, b []string, differ int) int {
	return 2 + differ*(4*bits.Len(uint(max(len(a), len(b))))+4)
}

func shortTalk(d impl.Talk) string {
	return fmt.Sprintf("code %d, %d notes, only a %s, only b %s", d.Code, d.Notes, shortSums(d.OnlyA), shortSums(d.OnlyB))
}

func sameTalk(a, b impl.Talk) bool {
	return a.Code == b.Code && a.Notes == b.Notes && slices.Equal(a.OnlyA, b.OnlyA) && slices.Equal(a.OnlyB, b.OnlyB)
}

// checkDiffer holds a talk against a second one, and against the promise; it tells whether a Mix had fooled it.
func checkDiffer(t *testing.T, what string, a, b []string, width int) (impl.Talk, bool) {
	t.Helper()
	got := impl.Differ(a, b, width)
	want, fooled := talkOf(a, b, width)
	if !sameTalk(got, want) {
		t.Errorf("%s, width %d: %s, not %s", what, width, shortTalk(got), shortTalk(want))
	}
	onlyA, onlyB := notAmong(a, b), notAmong(b, a)
	if len(notAmong(got.OnlyA, onlyA))+len(notAmong(got.OnlyB, onlyB)) != 0 {
		t.Errorf("%s, width %d: %s: it is told what is not so", what, width, shortTalk(got))
	}
	if !fooled && (!slices.Equal(got.OnlyA, onlyA) || !slices.Equal(got.OnlyB, onlyB)) {
		t.Errorf("%s, width %d: %s, but it is %s and %s", what, width, shortTalk(got), shortSums(onlyA), shortSums(onlyB))
	}
	// Where none is fooled, these are as many as OnlyA and OnlyB.
	if most := mostNotes(a, b, len(onlyA)+len(onlyB)); got.Notes > most {
		t.Errorf("%s, width %d: %s: more than %d notes", what, width, shortTalk(got), most)
	}
	return got, fooled
}

// cut is a list without what stands at a place.
func cut(set []string, at int) []string {
	return slices.Delete(slices.Clone(set), at, at+1)
}

// pairsOf are pairs of sets of at most n sums, by how they differ; n is even, and 2 at least.
func pairsOf(n, width int) map[string][2][]string {
	set := setOf(n, n, width)
	var even, odd []string
	for i, sum := range set {
		if i%2 == 0 {
			even = append(even, sum)
		} else {
			odd = append(odd, sum)
		}
	}
	return map[string][2][]string{
		"the same":                      {set, slices.Clone(set)},
		"nothing shared, mixed":         {even, odd},
		"nothing shared, one behind":    {set[:n/2], set[n/2:]},
		"one is empty":                  {set, nil},
		"one holds the other":           {set, even},
		"one holds the other's front":   {set, set[:n/2]},
		"one holds the other's end":     {set, set[n/2:]},
		"one at the beginning":          {set, cut(set, 0)},
		"one in the middle":             {set, cut(set, n/2)},
		"one ahead of the middle":       {set, cut(set, n/2-1)},
		"one at the end":                {set, cut(set, n-1)},
		"each one, side by side":        {cut(set, n/2), cut(set, n/2-1)},
		"each one, far from each other": {cut(set, 0), cut(set, n-1)},
	}
}

func TestDifferAtEveryWidth(t *testing.T) {
	for width := 1; width <= impl.MaxWidth; width++ {
		for _, n := range []int{2, 4, 6, 8, 10, 12, 40, 250, 500} {
			for what, pair := range pairsOf(min(n, mostOf(width)), width) {
				what = fmt.Sprintf("%d sums, %s", n, what)
				got, _ := checkDiffer(t, what, pair[0], pair[1], width)
				back, _ := checkDiffer(t, what+", the other way round", pair[1], pair[0], width)
				if width > 3 && (!slices.Equal(got.OnlyA, back.OnlyB) || !slices.Equal(got.OnlyB, back.OnlyA)) {
					t.Errorf("%s, width %d: %s and %s", what, width, shortTalk(got), shortTalk(back))
				}
			}
		}
	}
}

func TestDifferOfFewSums(t *testing.T) {
	for _, c := range []struct {
		a, b, onlyA, onlyB string
		notes              int
	}{
		{"", "", "", "", 1},
		{"m", "", "m", "", 2},
		{"", "m", "", "m", 2},
		{"m", "m", "", "", 1},
		{"m", "n", "m", "n", 2},
		{"abcd", "abcd", "", "", 1},
		{"abcd", "abc", "d", "", 2},
		{"abc", "abcd", "", "d", 2},
		{"abcd", "efgh", "abcd", "efgh", 2},
		{"abcd", "abcdefghij", "", "efghij", 2},
		{"abcdefghij", "abcd", "efghij", "", 2},
		{"abcde", "bcde", "a", "", 2},
		// b parts at d, a lists from the beginning to d.
		{"abdef", "abcdef", "", "c", 4},
		// b parts at its own third one: both sides differ there.
		{"abcde", "fghij", "abcde", "fghij", 5},
		{"acegi", "bdfhj", "acegi", "bdfhj", 5},
	} {
		got := impl.Differ(strings.Split(c.a, "")[:len(c.a)], strings.Split(c.b, "")[:len(c.b)], 1)
		if got.Code != 0 || strings.Join(got.OnlyA, "") != c.onlyA || strings.Join(got.OnlyB, "") != c.onlyB || got.Notes != c.notes {
			t.Errorf("%q and %q: %s, not %q and %q, %d notes", c.a, c.b, shortTalk(got), c.onlyA, c.onlyB, c.notes)
		}
	}
}

// Every two sets of the same seven sums talk with each other.
func TestDifferOfAllSmallSets(t *testing.T) {
	all := []string{"\x00", "\x01", "A", "\x7f", "\x80", "\xc3", "\xff"}
	of := func(which int) []string {
		out := []string{}
		for i, sum := range all {
			if which>>i&1 == 1 {
				out = append(out, sum)
			}
		}
		return out
	}
	for x := range 1 << len(all) {
		for y := range 1 << len(all) {
			checkDiffer(t, fmt.Sprintf("sets %b and %b", x, y), of(x), of(y), 1)
		}
	}
}

func TestDifferAtEveryPlace(t *testing.T) {
	for _, n := range []int{5, 16, 17, 100, impl.MaxSet} {
		set := setOf(n, n, 8)
		for at := range set {
			for _, pair := range [][2][]string{{set, cut(set, at)}, {cut(set, at), set}} {
				got, _ := checkDiffer(t, fmt.Sprintf("%d sums, place %d", n, at), pair[0], pair[1], 8)
				if len(got.OnlyA)+len(got.OnlyB) != 1 {
					t.Errorf("%d sums, place %d: %s", n, at, shortTalk(got))
				}
			}
		}
	}
}

// Sets of drawn sizes that differ in a drawn number of sums, on either side.
func TestDifferOfDrawnSets(t *testing.T) {
	for seed := range 320 {
		width := 1 + seed%impl.MaxWidth
		draw := drawn(seed, 6, allBytes())
		n := 1 + (int(draw[0])*256+int(draw[1]))%mostOf(width)
		a := setOf(seed, n, width)
		b := slices.Clone(a)
		for i := range 1 + int(draw[2])%12 {
			if which := drawn(seed+i, 3, allBytes()); which[0]%2 == 0 && len(b) > 0 {
				b = cut(b, (int(which[1])*256+int(which[2]))%len(b))
			} else if len(a) > 0 {
				a = cut(a, (int(which[1])*256+int(which[2]))%len(a))
			}
		}
		checkDiffer(t, fmt.Sprintf("seed %d", seed), a, b, width)
		checkDiffer(t, fmt.Sprintf("seed %d, of another draw", seed), a, setOf(seed+7777, n/2, width), width)
	}
}

func TestNotesOfGreatSets(t *testing.T) {
	set, other := setOf(1, impl.MaxSet, 8), setOf(2, impl.MaxSet, 8)
	for what, pair := range map[string][2][]string{
		"nothing shared":       {set, other},
		"few shared":           {set, slices.Sorted(slices.Values(append(slices.Clone(other[:450]), set[:50]...)))},
		"one behind the other": {countedSet(0, impl.MaxSet, 8), countedSet(impl.MaxSet, impl.MaxSet, 8)},
		"every second":         {set, slices.Sorted(slices.Values(append(slices.Clone(other[:250]), set[250:]...)))},
	} {
		if got, fooled := checkDiffer(t, what, pair[0], pair[1], 8); fooled || got.Code != 0 {
			t.Errorf("%s: %s", what, shortTalk(got))
		}
	}
	if got := impl.Differ(set, set, 8); !sameTalk(got, impl.Talk{Notes: 1}) {
		t.Errorf("the same: %s", shortTalk(got))
	}
	if got := impl.Differ(set, other[:4], 8); got.Notes != 2 {
		t.Errorf("many and few: %s", shortTalk(got))
	}
}

// oneMix are, by width, two different lists of sums with one Mix, the first one's sums being less.
func oneMix() [][2][]string {
	return [][2][]string{
		1: {{"e", "q"}, {"f", "h"}},
		2: {{"\x29\xc0"}, {"\x86\x5d"}},
		3: {{"\x4e\xec\x74"}, {"\xe6\xbc\xcc"}},
		4: {{"\x79\x5f\x7b\xd7"}, {"\xb5\x05\x95\xc7"}},
		5: {{"\x5b\x76\xf1\x89\x6b"}, {"\xb8\x5d\x8f\x5c\xa4"}},
		6: {{"\x74\xad\x93\xcb\x41\xcb"}, {"\xe3\x96\xb9\xd3\x2c\xa0"}},
		7: {{"\x26\xfa\xca\xc4\x65\xde\x02"}, {"\x94\xc4\x46\x9a\x77\x2c\xc8"}},
		8: {{"\x38\x09\x16\x45\xef\xbb\x85\xd5"}, {"\x68\x88\x36\x0b\xa1\xda\x48\xaa"}},
	}
}

func TestDifferOfOneMix(t *testing.T) {
	for width := 1; width <= impl.MaxWidth; width++ {
		x, y := oneMix()[width][0], oneMix()[width][1]
		if wantMix(x, width) != wantMix(y, width) {
			t.Fatalf("width %d: %x and %x have not one Mix", width, x, y)
		}
		// What stands behind both is combined into one Mix, too.
		behind := wantThere(setOf(5, 200, width), strings.Repeat("\xf0", width), "")
		for _, n := range []int{0, 1, 2, 3, len(behind)} {
			a, b := append(slices.Clone(x), behind[:n]...), append(slices.Clone(y), behind[:n]...)
			got, fooled := checkDiffer(t, "one Mix", a, b, width)
			if !fooled || !sameTalk(got, impl.Talk{Notes: 1}) {
				t.Errorf("width %d, %d behind: %s", width, n, shortTalk(got))
			}
		}
	}
}

// Only the part with one Mix is not told of.
func TestDifferOfPartsOfOneMix(t *testing.T) {
	for width := 1; width <= impl.MaxWidth; width++ {
		x, y := oneMix()[width][0], oneMix()[width][1]
		behind := wantThere(setOf(6, 200, width), strings.Repeat("\xf0", width), "")
		a, b := append(slices.Clone(x), behind...), append(slices.Clone(y), behind...)
		for at := len(behind)/2 + len(x); at < len(a); at++ {
			got, fooled := checkDiffer(t, "one Mix in front", a, cut(b, at), width)
			if fooled && slices.Equal(got.OnlyA, a[at:at+1]) && len(got.OnlyB) == 0 {
				continue
			}
			t.Errorf("width %d, place %d: %s", width, at, shortTalk(got))
		}
	}
}

// The whole sets have two Mixes, but each part has one.
func TestDifferOfPartsThatAgree(t *testing.T) {
	a, b := []string{"A", "B", "a", "h", "i"}, []string{"A", "B", "a", "b", "o"}
	for _, pair := range [][2][]string{{a, b}, {b, a}} {
		got, fooled := checkDiffer(t, "parts that agree", pair[0], pair[1], 1)
		if !fooled || !sameTalk(got, impl.Talk{Notes: 3}) {
			t.Errorf("%s", shortTalk(got))
		}
	}
}

// One Mix with another Count is seen.
func TestDifferOfOneMixAndTwoCounts(t *testing.T) {
	found := 0
	for first := range 256 {
		a := []string{string([]byte{byte(first)})}
		for second := range 256 {
			b := []string{string([]byte{byte(second)}), "\xff"}
			if second == 255 || wantMix(a, 1) != wantMix(b, 1) {
				continue
			}
			found++
			if got := impl.Differ(a, b, 1); got.Notes != 2 || !slices.Equal(got.OnlyA, notAmong(a, b)) || !slices.Equal(got.OnlyB, notAmong(b, a)) {
				t.Errorf("%x and %x: %s", a, b, shortTalk(got))
			}
		}
	}
	if found == 0 {
		t.Error("there are none")
	}
}

// At small widths many are fooled; what is told is right even so.
func TestDifferAtSmallWidths(t *testing.T) {
	fooled := [3]int{}
	for seed := range 3000 {
		width := 1 + seed%2
		draw := drawn(seed, 2, allBytes())
		a, b := setOf(seed, int(draw[0])%40, width), setOf(seed+5000, int(draw[1])%40, width)
		if seed%4 > 1 {
			b = slices.Sorted(slices.Values(append(notAmong(a[:len(a)/2], b), b...)))
		}
		if _, so := checkDiffer(t, fmt.Sprintf("seed %d", seed), a, b, width); so {
			fooled[width]++
		}
	}
	if fooled[1] == 0 {
		t.Errorf("none was fooled: %v", fooled)
	}
}

func TestDifferOfWrongSets(t *testing.T) {
	for width := 1; width <= impl.MaxWidth; width++ {
		right := setOf(1, 7, width)
		for what, wrong := range wrongSets(width) {
			for side, pair := range map[string][2][]string{
				"a":                  {wrong, right},
				"b":                  {right, wrong},
				"a, b being empty":   {wrong, nil},
				"b, a being empty":   {nil, wrong},
				"both, the same":     {wrong, wrong},
				"both, in two lists": {wrong, slices.Clone(wrong)},
			} {
				if got := impl.Differ(pair[0], pair[1], width); !sameTalk(got, impl.Talk{Code: 1}) {
					t.Errorf("%s in %s, width %d: %s", what, side, width, shortTalk(got))
				}
			}
		}
	}
}

func TestDifferOfNoWidth(t *testing.T) {
	for _, width := range badWidths() {
		for _, set := range [][]string{nil, {}, {""}, {"a"}, {"aaaaaaaa"}, {"aaaaaaaaa", "bbbbbbbbb"}, {strings.Repeat("a", 16)}} {
			for _, other := range [][]string{nil, set, {"b"}} {
				if got := impl.Differ(set, other, width); !sameTalk(got, impl.Talk{Code: 1}) {
					t.Errorf("width %d, %q and %q: %s", width, set, other, shortTalk(got))
				}
			}
		}
	}
}

func TestDifferOfAnotherWidth(t *testing.T) {
	set := setOf(1, 9, 4)
	for width := 1; width <= impl.MaxWidth; width++ {
		want := 1
		if width == 4 {
			want = 0
		}
		if got := impl.Differ(set, set[:3], width); got.Code != want {
			t.Errorf("width %d: %s", width, shortTalk(got))
		}
	}
	if got := impl.Differ(set, setOf(1, 9, 5), 4); got.Code != 1 {
		t.Errorf("two widths: %s", shortTalk(got))
	}
}

func TestDifferOfMaxSet(t *testing.T) {
	most, over := countedSet(0, impl.MaxSet, 2), countedSet(0, impl.MaxSet+1, 2)
	if got, _ := checkDiffer(t, "MaxSet", most, over[1:], 2); got.Code != 0 {
		t.Errorf("MaxSet: %s", shortTalk(got))
	}
	for _, pair := range [][2][]string{{most, over}, {over, most}, {over, over}, {over, nil}} {
		if got := impl.Differ(pair[0], pair[1], 2); !sameTalk(got, impl.Talk{Code: 1}) {
			t.Errorf("%d and %d sums: %s", len(pair[0]), len(pair[1]), shortTalk(got))
		}
	}
}

func TestDifferLeavesArgumentsAlone(t *testing.T) {
	for _, n := range []int{0, 1, 4, 5, 100, 499} {
		a, aChanged := roomySums(setOf(1, n, 8))
		b, bChanged := roomySums(setOf(2, n, 8))
		for _, pair := range [][2][]string{{a, b}, {a, a}, {a, a[:n/2]}, {a[n/2:], a}, {a[:n/2], a[n/2:]}, {append(slices.Clone(a), "a"), b}} {
			impl.Differ(pair[0], pair[1], 8)
			if aChanged() || bChanged() {
				t.Errorf("%d sums: an argument was written into", n)
			}
		}
	}
}

func TestTalksAreNewMemory(t *testing.T) {
	for _, n := range []int{1, 3, 4, 5, 100, 500} {
		a, b := setOf(1, n, 8), setOf(2, n, 8)
		aBefore, bBefore := slices.Clone(a), slices.Clone(b)
		got := impl.Differ(a, b, 8)
		if sharesText(got.OnlyA, a...) || sharesText(got.OnlyB, b...) {
			t.Errorf("%d sums: texts are shared", n)
		}
		only := slices.Clone(got.OnlyB)
		fillSums(got.OnlyA)
		if !slices.Equal(got.OnlyB, only) {
			t.Errorf("%d sums: the two lists share memory", n)
		}
		fillSums(got.OnlyB)
		if !slices.Equal(a, aBefore) || !slices.Equal(b, bBefore) {
			t.Errorf("%d sums: a list is shared with an argument", n)
		}
		checkDiffer(t, "once more", a, b, 8)
	}
}

// endsSoon runs what must not be left waiting.
func endsSoon(t *testing.T, what string, call func()) {
	t.Helper()
	ended := make(chan bool)
	go func() {
		defer close(ended)
		call()
	}()
	select {
	case <-ended:
	case <-time.After(time.Minute):
		t.Fatalf("%s: it is left waiting", what)
	}
}

func TestDifferAnswersTheSameAtEachCall(t *testing.T) {
	for what, pair := range pairsOf(200, 3) {
		want, _ := checkDiffer(t, what, pair[0], pair[1], 3)
		endsSoon(t, what, func() {
			for range 50 {
				if got := impl.Differ(pair[0], pair[1], 3); !sameTalk(got, want) {
					t.Errorf("%s: %s, then %s", what, shortTalk(want), shortTalk(got))
				}
				impl.Differ(pair[1], nil, 3)
				impl.Differ(pair[1], []string{"wrong"}, 3)
			}
		})
	}
}

// Talks that go on at the same time know nothing of each other, with one processor and with several.
func TestTalksAtTheSameTime(t *testing.T) {
	pairs := pairsOf(100, 4)
	for _, processors := range []int{1, 2, runtime.NumCPU()} {
		before := runtime.GOMAXPROCS(processors)
		endsSoon(t, fmt.Sprintf("%d processors", processors), func() {
			var callers sync.WaitGroup
			for what, pair := range pairs {
				callers.Go(func() {
					for range 20 {
						checkDiffer(t, what, pair[0], pair[1], 4)
					}
				})
			}
			callers.Wait()
		})
		runtime.GOMAXPROCS(before)
	}
}

func TestNoSideIsLeftWaiting(t *testing.T) {
	before := runtime.NumGoroutine()
	for _, n := range []int{2, 6, 100} {
		for what, pair := range pairsOf(n, 2) {
			endsSoon(t, what, func() {
				impl.Differ(pair[0], pair[1], 2)
				impl.Differ(pair[1], pair[0], 2)
				impl.Differ(pair[1], []string{"wrong"}, 2)
				impl.Differ([]string{"wrong"}, pair[0], 2)
				impl.Differ(pair[0], pair[1], 0)
			})
		}
	}
	// A goroutine that has said that it is done may still stand there for a moment.
	for range 1000 {
		if runtime.NumGoroutine() <= before {
			return
		}
		time.Sleep(time.Millisecond)
	}
	t.Errorf("%d goroutines are left", runtime.NumGoroutine()-before)
}
