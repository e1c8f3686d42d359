package tests

import (
	"encoding/binary"
	"fmt"
	"math"
	"slices"
	"strings"
	"testing"

	"loop.example/kilnpass/impl"
)

// wantMix is the library's own sum of sums put together.
func wantMix(sums []string, width int) string {
	whole := binary.BigEndian.AppendUint64(nil, wantSum64(strings.Join(sums, "")))
	return string(whole[8-width:])
}

func wantSet(set []string, width int) bool {
	for i, sum := range set {
		if len(sum) != width || i > 0 && set[i-1] >= sum {
			return false
		}
	}
	return width >= 1 && width <= 8 && len(set) <= 500
}

// wantThere looks at every sum of a set for those from a text to another.
func wantThere(set []string, from, to string) []string {
	out := []string{}
	for _, sum := range set {
		if sum >= from && (to == "" || sum < to) {
			out = append(out, sum)
		}
	}
	return out
}

func wantTell(set []string, from, to string, width int) impl.Note {
	if !wantSet(set, width) {
		return impl.Note{}
	}
	there := wantThere(set, from, to)
	return impl.Note{From: from, To: to, Count: len(there), Mix: wantMix(there, width)}
}

func wantNote(n impl.Note, width int) bool {
	switch {
	case n.To != "" && n.From >= n.To, n.Count < 0:
		return false
	case !wantSet(n.Sums, width), len(wantThere(n.Sums, n.From, n.To)) < len(n.Sums):
		return false
	case n.Has:
		return n.Count == 0 && n.Mix == ""
	}
	return len(n.Sums) == 0
}

// notAmong is those of a set that are not among others.
func notAmong(set, others []string) []string {
	among := map[string]bool{}
	for _, sum := range others {
		among[sum] = true
	}
	out := []string{}
	for _, sum := range set {
		if !among[sum] {
			out = append(out, sum)
		}
	}
	return out
}

func wantHear(set []string, n impl.Note, width int) ([]impl.Note, []string, []string) {
	if !wantSet(set, width) || !wantNote(n, width) {
		return nil, nil, nil
	}
	there := wantThere(set, n.From, n.To)
	if n.Has {
		return nil, notAmong(n.Sums, set), notAmong(there, n.Sums)
	}
	if n.Count == len(there) && n.Mix == wantMix(there, width) {
		return nil, nil, nil
	}
	if n.Count <= 4 || len(there) <= 4 {
		return []impl.Note{{From: n.From, To: n.To, Has: true, Sums: there}}, nil, nil
	}
	middle := there[len(there)/2]
	return []impl.Note{wantTell(set, n.From, middle, width), wantTell(set, middle, n.To, width)}, nil, nil
}

func sameNote(a, b impl.Note) bool {
	return a.From == b.From && a.To == b.To && a.Count == b.Count && a.Mix == b.Mix && a.Has == b.Has && slices.Equal(a.Sums, b.Sums)
}

func shortNote(n impl.Note) string {
	return fmt.Sprintf("%x to %x: %d %x %v %s", n.From, n.To, n.Count, n.Mix, n.Has, shortSums(n.Sums))
}

func shortNotes(notes []impl.Note) string {
	out := []string{}
	for _, n := range notes {
		out = append(out, shortNote(n))
	}
	return "[" + strings.Join(out, "; ") + "]"
}

// copyNote has a list of its own.
func copyNote(n impl.Note) impl.Note {
	n.Sums = slices.Clone(n.Sums)
	return n
}

func checkTell(t *testing.T, set []string, from, to string, width int) impl.Note {
	t.Helper()
	got := impl.Tell(set, from, to, width)
	if want := wantTell(set, from, to, width); !sameNote(got, want) {
		t.Errorf("width %d, %d sums: told %s, not %s", width, len(set), shortNote(got), shortNote(want))
	}
	return got
}

func checkHear(t *testing.T, set []string, n impl.Note, width int) ([]impl.Note, []string, []string) {
	t.Helper()
	told, theirs, ours := impl.Hear(set, n, width)
	wantTold, wantTheirs, wantOurs := wantHear(set, n, width)
	what := fmt.Sprintf("width %d, %d sums, heard %s", width, len(set), shortNote(n))
	if !slices.EqualFunc(told, wantTold, sameNote) {
		t.Errorf("%s: told %s, not %s", what, shortNotes(told), shortNotes(wantTold))
	}
	if !slices.Equal(theirs, wantTheirs) || !slices.Equal(ours, wantOurs) {
		t.Errorf("%s: learnt %s and %s, not %s and %s", what, shortSums(theirs), shortSums(ours), shortSums(wantTheirs), shortSums(wantOurs))
	}
	for _, note := range told {
		if !wantNote(note, width) {
			t.Errorf("%s: told %s, which nobody can hear", what, shortNote(note))
		}
	}
	return told, theirs, ours
}

// hearsNothing holds Hear against the answer for what is wrong.
func hearsNothing(t *testing.T, what string, set []string, n impl.Note, width int) {
	t.Helper()
	if told, theirs, ours := impl.Hear(set, n, width); len(told)+len(theirs)+len(ours) != 0 {
		t.Errorf("%s, width %d: told %s, learnt %s and %s", what, width, shortNotes(told), shortSums(theirs), shortSums(ours))
	}
}

// setOf is n sums, ascending, the same ones for the same seed.
func setOf(seed, n, width int) []string {
	out := []string{}
	for i := 0; len(out) < n; i++ {
		sum := drawn(seed*100000+i, width, allBytes())
		if at, there := slices.BinarySearch(out, sum); !there {
			out = slices.Insert(out, at, sum)
		}
	}
	return out
}

// countedSet is sums that count up from a number, one behind the other.
func countedSet(from, n, width int) []string {
	out := []string{}
	for i := range n {
		whole := binary.BigEndian.AppendUint64(nil, uint64(from+i))
		out = append(out, string(whole[8-width:]))
	}
	return out
}

// mostOf is how many sums a set of this width can have.
func mostOf(width int) int {
	if width == 1 {
		return 256
	}
	return impl.MaxSet
}

// boundsOf are texts that stretches of a set may begin and end at: some of it, some right beside them, and others.
func boundsOf(set []string, width int) []string {
	out := []string{"", "\x00", "a", strings.Repeat("\x00", width), strings.Repeat("\xff", width), strings.Repeat("\xff", width+1)}
	for _, at := range []int{0, 1, len(set) / 2, len(set) - 1} {
		if at >= 0 && at < len(set) {
			out = append(out, set[at], set[at]+"\x00", set[at][:width-1])
		}
	}
	return out
}

func TestTellAtEveryWidth(t *testing.T) {
	for width := 1; width <= impl.MaxWidth; width++ {
		for _, n := range []int{0, 1, 2, 4, 5, 30, 255, 256, 499, 500} {
			if n > mostOf(width) {
				continue
			}
			set := setOf(n, n, width)
			bounds := boundsOf(set, width)
			for _, from := range bounds {
				for _, to := range bounds {
					checkTell(t, set, from, to, width)
				}
			}
		}
	}
}

func TestTellOfStretches(t *testing.T) {
	set := []string{"ba", "bb", "bd", "da"}
	for _, c := range []struct {
		from, to string
		there    string
	}{
		{"", "", "babbbdda"},
		{"ba", "", "babbbdda"},
		{"bb", "", "bbbdda"},
		{"bb\x00", "", "bdda"},
		{"bc", "", "bdda"},
		{"da", "", "da"},
		{"da\x00", "", ""},
		{"z", "", ""},
		{"", "ba", ""},
		{"", "ba\x00", "ba"},
		{"", "bb", "ba"},
		{"", "b", ""},
		{"", "c", "babbbd"},
		{"", "da", "babbbd"},
		{"", "zzzz", "babbbdda"},
		{"b", "bd", "babb"},
		{"ba", "bd", "babb"},
		{"bb", "bd", "bb"},
		{"bb", "bc", "bb"},
		{"bc", "bd", ""},
		{"bc", "bcz", ""},
		{"bd", "bd", ""},
		{"bd", "ba", ""},
		{"z", "a", ""},
	} {
		want := impl.Note{From: c.from, To: c.to, Count: len(c.there) / 2, Mix: impl.Sum(c.there, 2)}
		if got := impl.Tell(set, c.from, c.to, 2); !sameNote(got, want) {
			t.Errorf("from %q to %q: %s, not %s", c.from, c.to, shortNote(got), shortNote(want))
		}
		checkTell(t, set, c.from, c.to, 2)
	}
}

func TestTellOfNothingHasItsMix(t *testing.T) {
	for width := 1; width <= impl.MaxWidth; width++ {
		got := impl.Tell(nil, "", "", width)
		if got.Mix != impl.Sum("", width) || len(got.Mix) != width || got.Count != 0 {
			t.Errorf("width %d: %s", width, shortNote(got))
		}
		if empty := impl.Tell([]string{}, "", "", width); !sameNote(got, empty) {
			t.Errorf("width %d: the empty list is told as %s", width, shortNote(empty))
		}
	}
}

// The zero note has Count 0, as a stretch of none, but not its Mix.
func TestHearOfTheZeroNote(t *testing.T) {
	for _, n := range []int{0, 1, 4, 5, 500} {
		set := setOf(n, n, 3)
		told, _, _ := checkHear(t, set, impl.Note{}, 3)
		if len(told) != 1 || !told[0].Has || !slices.Equal(told[0].Sums, set) {
			t.Errorf("%d sums: %s", n, shortNotes(told))
		}
	}
}

func TestHearAtEveryWidth(t *testing.T) {
	for width := 1; width <= impl.MaxWidth; width++ {
		for _, n := range []int{0, 1, 3, 4, 5, 6, 40, 500} {
			n = min(n, mostOf(width))
			set, other := setOf(1, n, width), setOf(2, n, width)
			bounds := boundsOf(set, width)
			for _, from := range bounds {
				for _, to := range bounds {
					mine := impl.Tell(set, from, to, width)
					if told, theirs, ours := checkHear(t, set, mine, width); len(told)+len(theirs)+len(ours) != 0 {
						t.Errorf("width %d, %d sums: they do not agree with themselves", width, n)
					}
					checkHear(t, set, impl.Tell(other, from, to, width), width)
					checkHear(t, set, impl.Note{From: from, To: to, Has: true, Sums: wantThere(other, from, to)}, width)
					checkHear(t, set, impl.Note{From: from, To: to, Has: true, Sums: wantThere(set, from, to)}, width)
				}
			}
		}
	}
}

func TestHearAgreesByBoth(t *testing.T) {
	for width := 1; width <= impl.MaxWidth; width++ {
		for _, n := range []int{0, 1, 4, 5, 30} {
			set := setOf(9, n, width)
			note := impl.Tell(set, "", "", width)
			hearsNothing(t, "its own note", set, note, width)
			for what, other := range map[string]impl.Note{
				"another Count":   {Count: note.Count + 1, Mix: note.Mix},
				"another Mix":     {Count: note.Count, Mix: strings.Repeat("\x00", width)},
				"an empty Mix":    {Count: note.Count},
				"a longer Mix":    {Count: note.Count, Mix: note.Mix + "\x00"},
				"a shorter Mix":   {Count: note.Count, Mix: note.Mix[1:]},
				"a Mix in front":  {Count: note.Count, Mix: "\x00" + note.Mix},
				"a great Count":   {Count: math.MaxInt, Mix: note.Mix},
				"another stretch": {From: "\x00", To: "\x00\x00", Count: note.Count + 1, Mix: note.Mix},
			} {
				if told, _, _ := checkHear(t, set, other, width); len(told) == 0 {
					t.Errorf("%s, width %d, %d sums: it agrees", what, width, n)
				}
			}
		}
	}
}

// few is a stretch of n sums in the midst of others.
func few(n int) ([]string, string, string) {
	set := slices.Concat(countedSet(100, 20, 2), countedSet(1000, n, 2), countedSet(3000, 20, 2))
	return set, countedSet(900, 1, 2)[0], countedSet(2000, 1, 2)[0]
}

func TestFewOnEitherSide(t *testing.T) {
	for there := range 9 {
		for count := range 9 {
			set, from, to := few(there)
			note := impl.Note{From: from, To: to, Count: count, Mix: "no"}
			told, theirs, ours := checkHear(t, set, note, 2)
			listed := there <= impl.MaxFew || count <= impl.MaxFew
			if len(theirs)+len(ours) != 0 {
				t.Errorf("%d there, Count %d: learnt %x %x", there, count, theirs, ours)
			}
			if listed && (len(told) != 1 || !sameNote(told[0], impl.Note{From: from, To: to, Has: true, Sums: countedSet(1000, there, 2)})) {
				t.Errorf("%d there, Count %d: %s, not a list", there, count, shortNotes(told))
			}
			if !listed && (len(told) != 2 || told[0].Has || told[1].Has) {
				t.Errorf("%d there, Count %d: %s, not two parts", there, count, shortNotes(told))
			}
		}
	}
}

func TestFewAgainstMany(t *testing.T) {
	many := setOf(3, impl.MaxSet, 4)
	for n := range impl.MaxFew + 1 {
		small := setOf(4, n, 4)
		told, _, _ := checkHear(t, many, impl.Tell(small, "", "", 4), 4)
		if len(told) != 1 || !told[0].Has || !slices.Equal(told[0].Sums, many) {
			t.Errorf("%d against many: %s", n, shortNotes(told))
		}
		told, _, _ = checkHear(t, small, impl.Tell(many, "", "", 4), 4)
		if len(told) != 1 || !told[0].Has || !slices.Equal(told[0].Sums, small) {
			t.Errorf("many against %d: %s", n, shortNotes(told))
		}
	}
}

func TestMiddleOfWhatIsThere(t *testing.T) {
	for n := impl.MaxFew + 1; n <= 40; n++ {
		set, from, to := few(n)
		there := countedSet(1000, n, 2)
		told, _, _ := checkHear(t, set, impl.Note{From: from, To: to, Count: 5, Mix: "no"}, 2)
		want := []impl.Note{
			{From: from, To: there[n/2], Count: n / 2, Mix: impl.Sum(strings.Join(there[:n/2], ""), 2)},
			{From: there[n/2], To: to, Count: n - n/2, Mix: impl.Sum(strings.Join(there[n/2:], ""), 2)},
		}
		if !slices.EqualFunc(told, want, sameNote) {
			t.Errorf("%d there: %s, not %s", n, shortNotes(told), shortNotes(want))
		}
	}
}

func TestPartsWithOpenEnds(t *testing.T) {
	set := countedSet(10, 9, 2)
	for _, c := range []struct {
		from, to string
		middle   int
	}{
		{"", "", 4},
		{set[0], "", 4},
		{set[2], "", 5},
		{set[4], "", 6},
		{"", set[8], 4},
		{"", set[5], 2},
		{set[1], set[8], 4},
		{set[1], set[7], 4},
	} {
		told, _, _ := checkHear(t, set, impl.Note{From: c.from, To: c.to, Count: 9, Mix: "no"}, 2)
		if len(told) != 2 {
			t.Fatalf("from %x to %x: %s", c.from, c.to, shortNotes(told))
		}
		if told[0].From != c.from || told[0].To != set[c.middle] || told[1].From != set[c.middle] || told[1].To != c.to {
			t.Errorf("from %x to %x: %s", c.from, c.to, shortNotes(told))
		}
	}
}

func TestWhoLearnsWhat(t *testing.T) {
	set := []string{"bb", "cc", "dd", "ff"}
	for _, c := range []struct {
		from, to     string
		sums         []string
		theirs, ours []string
	}{
		{"", "", nil, nil, set},
		{"", "", set, nil, nil},
		{"", "", []string{"aa", "bb", "cc", "dd", "ff"}, []string{"aa"}, nil},
		{"", "", []string{"bb", "cc", "dd", "ff", "zz"}, []string{"zz"}, nil},
		{"", "", []string{"cc", "dd", "ff"}, nil, []string{"bb"}},
		{"", "", []string{"bb", "cc", "dd"}, nil, []string{"ff"}},
		{"", "", []string{"bb", "ca", "dd", "ee", "ff"}, []string{"ca", "ee"}, []string{"cc"}},
		{"", "", []string{"aa", "zz"}, []string{"aa", "zz"}, set},
		{"cc", "", []string{"dd"}, nil, []string{"cc", "ff"}},
		{"cc", "ff", []string{"cc", "ee"}, []string{"ee"}, []string{"dd"}},
		{"ca", "fe", nil, nil, []string{"cc", "dd"}},
		{"", "bb", []string{"aa"}, []string{"aa"}, nil},
		{"", "cc", []string{"aa"}, []string{"aa"}, []string{"bb"}},
		{"g", "", []string{"gg", "hh"}, []string{"gg", "hh"}, nil},
		{"g", "", nil, nil, nil},
	} {
		note := impl.Note{From: c.from, To: c.to, Has: true, Sums: c.sums}
		told, theirs, ours := checkHear(t, set, note, 2)
		if len(told) != 0 || !slices.Equal(theirs, c.theirs) || !slices.Equal(ours, c.ours) {
			t.Errorf("%s: told %s, learnt %q and %q, not %q and %q", shortNote(note), shortNotes(told), theirs, ours, c.theirs, c.ours)
		}
	}
}

// wrongSets are lists of sums that are no set, by what is wrong with them.
func wrongSets(width int) map[string][]string {
	high, low := strings.Repeat("n", width), strings.Repeat("c", width)
	out := map[string][]string{
		"not ascending":      {high, low},
		"one sum twice":      {low, low},
		"not at its end":     {low, high, low},
		"twice at its end":   {low, high, high},
		"a longer sum":       {low + "d"},
		"a longer sum last":  {low, high, high + "z"},
		"a longer sum first": {low[1:] + "ab", high},
		"a shorter sum":      {low, high[1:]},
		"an empty sum":       {""},
		"an empty sum first": {"", low, high},
	}
	if width > 1 {
		out["one too many"] = countedSet(0, impl.MaxSet+1, width)
		out["many too many"] = countedSet(0, 3*impl.MaxSet, width)
	} else {
		out["every byte and one more"] = append(countedSet(0, 256, 1), "\xff")
		out["every byte twice"] = append(countedSet(0, 256, 1), countedSet(0, 256, 1)...)
	}
	return out
}

func TestWrongSets(t *testing.T) {
	for width := 1; width <= impl.MaxWidth; width++ {
		for what, set := range wrongSets(width) {
			for _, stretch := range [][2]string{{"", ""}, {"a", "z"}, {"", "z"}, {"a", ""}, {"zz", "zzz"}} {
				if got := impl.Tell(set, stretch[0], stretch[1], width); !sameNote(got, impl.Note{}) {
					t.Errorf("Tell of %s, width %d: %s", what, width, shortNote(got))
				}
			}
			hearsNothing(t, what, set, impl.Note{Count: 2, Mix: "no"}, width)
			hearsNothing(t, what, set, impl.Note{Count: 700, Mix: "no"}, width)
			hearsNothing(t, what, set, impl.Note{Has: true}, width)
			hearsNothing(t, what, set, impl.Note{Has: true, Sums: setOf(1, 3, width)}, width)
			hearsNothing(t, what+" in the note", setOf(1, 3, width), impl.Note{Has: true, Sums: set}, width)
			hearsNothing(t, what+" in the note", nil, impl.Note{Has: true, Sums: set}, width)
			hearsNothing(t, what+" in a note without Has", setOf(1, 3, width), impl.Note{Count: 2, Sums: set}, width)
		}
	}
}

func TestNotesOfNoWidth(t *testing.T) {
	for _, width := range badWidths() {
		for _, set := range [][]string{nil, {""}, {"a"}, {"aaaaaaaa", "bbbbbbbb"}, {"aaaaaaaaa", "bbbbbbbbb"}, {strings.Repeat("a", 16)}} {
			if got := impl.Tell(set, "", "", width); !sameNote(got, impl.Note{}) {
				t.Errorf("width %d: %s", width, shortNote(got))
			}
			if got := impl.Tell(set, "a", "b", width); !sameNote(got, impl.Note{}) {
				t.Errorf("width %d: %s", width, shortNote(got))
			}
			hearsNothing(t, "a count", set, impl.Note{Count: 3, Mix: "no"}, width)
			hearsNothing(t, "a list", set, impl.Note{Has: true}, width)
			hearsNothing(t, "a list", nil, impl.Note{Has: true, Sums: set}, width)
		}
	}
}

func TestSetsOfMaxSet(t *testing.T) {
	for _, width := range []int{2, 3, 8} {
		most, over := countedSet(3, impl.MaxSet, width), countedSet(3, impl.MaxSet+1, width)
		if note := checkTell(t, most, "", "", width); note.Count != impl.MaxSet {
			t.Errorf("width %d: %s", width, shortNote(note))
		}
		if note := impl.Tell(over, "", "", width); !sameNote(note, impl.Note{}) {
			t.Errorf("width %d: one more is told as %s", width, shortNote(note))
		}
		// A stretch of few does not make a set of a list that is too long.
		if note := impl.Tell(over, over[3], over[5], width); !sameNote(note, impl.Note{}) {
			t.Errorf("width %d: a stretch of one more is told as %s", width, shortNote(note))
		}
		if told, _, _ := checkHear(t, most, impl.Note{Count: 9}, width); len(told) != 2 {
			t.Errorf("width %d: %s", width, shortNotes(told))
		}
		hearsNothing(t, "one more", over, impl.Note{Count: 9}, width)
		if _, theirs, _ := checkHear(t, nil, impl.Note{Has: true, Sums: most}, width); !slices.Equal(theirs, most) {
			t.Errorf("width %d: learnt %s", width, shortSums(theirs))
		}
		hearsNothing(t, "one more in the note", nil, impl.Note{Has: true, Sums: over}, width)
		if _, theirs, ours := checkHear(t, most, impl.Note{Has: true, Sums: over[1:]}, width); len(theirs) != 1 || len(ours) != 1 {
			t.Errorf("width %d: learnt %s and %s", width, shortSums(theirs), shortSums(ours))
		}
	}
}

func TestWrongNotes(t *testing.T) {
	set := []string{"bb", "cc", "dd", "ee", "ff", "gg"}
	for what, n := range map[string]impl.Note{
		"From behind To":                {From: "d", To: "c", Count: 9, Mix: "no"},
		"From is To":                    {From: "cc", To: "cc", Count: 9, Mix: "no"},
		"From is longer than To":        {From: "cca", To: "cc", Count: 9, Mix: "no"},
		"From behind To, with Has":      {From: "d", To: "c", Has: true},
		"From is To, with Has":          {From: "cc", To: "cc", Has: true},
		"Count below 0":                 {Count: -1, Mix: "no"},
		"Count far below 0":             {Count: math.MinInt, Mix: "no"},
		"Count below 0, with Has":       {Count: -1, Has: true},
		"Has and Count":                 {Count: 1, Has: true, Sums: []string{"aa"}},
		"Has and Count, no Sums":        {Count: 6, Has: true},
		"Has and Mix":                   {Mix: "no", Has: true, Sums: []string{"aa"}},
		"Has and Mix, no Sums":          {Mix: "\x00", Has: true},
		"Has and both":                  {Count: 1, Mix: impl.Sum("aa", 2), Has: true, Sums: []string{"aa"}},
		"Sums without Has":              {Sums: []string{"aa"}},
		"Sums without Has, Count, Mix":  {Count: 1, Mix: impl.Sum("aa", 2), Sums: []string{"aa"}},
		"Sums of its own without Has":   {Count: 5, Mix: "no", Sums: set},
		"Sums not ascending":            {Has: true, Sums: []string{"cc", "bb"}},
		"one of Sums twice":             {Has: true, Sums: []string{"aa", "aa"}},
		"Sums of another size":          {Has: true, Sums: []string{"aaa"}},
		"Sums of another size, shorter": {Has: true, Sums: []string{"a"}},
		"Sums of two sizes":             {Has: true, Sums: []string{"aa", "aaa"}},
		"an empty one of Sums":          {Has: true, Sums: []string{""}},
		"Sums ahead of From":            {From: "cc", Has: true, Sums: []string{"cb", "cd"}},
		"Sums right ahead of From":      {From: "cc\x00", Has: true, Sums: []string{"cc", "cd"}},
		"Sums at To":                    {To: "ee", Has: true, Sums: []string{"aa", "ee"}},
		"Sums behind To":                {To: "ee", Has: true, Sums: []string{"aa", "ef"}},
		"Sums right behind To":          {To: "ed\xff", Has: true, Sums: []string{"aa", "ee"}},
		"Sums ahead and behind":         {From: "cc", To: "ee", Has: true, Sums: []string{"aa", "cd", "zz"}},
		"all Sums ahead of From":        {From: "cc", To: "ee", Has: true, Sums: []string{"aa", "ab"}},
		"all Sums behind To":            {From: "cc", To: "ee", Has: true, Sums: []string{"yy", "zz"}},
	} {
		hearsNothing(t, what, set, n, 2)
		hearsNothing(t, what, nil, n, 2)
		checkHear(t, set, n, 2)
	}
}

// What is right beside the wrong notes is heard.
func TestNotesThatAreNearlyWrong(t *testing.T) {
	set := []string{"bb", "cc", "dd", "ee", "ff", "gg"}
	for what, n := range map[string]impl.Note{
		"From right ahead of To":       {From: "cc", To: "cc\x00", Count: 9, Mix: "no"},
		"From is the beginning of To":  {From: "c", To: "cc", Count: 9, Mix: "no"},
		"From behind all, To is empty": {From: "zzz", Count: 9, Mix: "no"},
		"From and To are empty":        {Count: 9, Mix: "no"},
		"Count 0":                      {Mix: "no"},
		"no Mix":                       {Count: 6},
		"an empty list of Sums":        {Count: 6, Mix: "no", Sums: []string{}},
		"Has alone":                    {Has: true},
		"Sums at From":                 {From: "ca", To: "ee", Has: true, Sums: []string{"ca", "ed"}},
		"Sums right ahead of To":       {To: "ee\x00", Has: true, Sums: []string{"aa", "ee"}},
		"Sums behind all":              {From: "zz", Has: true, Sums: []string{"zz"}},
	} {
		if told, theirs, ours := checkHear(t, set, n, 2); len(told)+len(theirs)+len(ours) == 0 {
			t.Errorf("%s: it is not heard", what)
		}
	}
}

// Sums and bounds are bytes, not letters: 0x80 is more than 0x7f, and a text comes ahead of a longer one.
func TestNotesOfAnyBytes(t *testing.T) {
	set := []string{"\x00\x00", "\x00\xff", "\x7f\xff", "\x80\x00", "\xc3\xa9", "\xff\x00", "\xff\xff"}
	bounds := append([]string{"", "\x00", "\x7f", "\x80", "\xc3", "\xff", "\xff\xff\x00"}, set...)
	for _, from := range bounds {
		for _, to := range bounds {
			checkTell(t, set, from, to, 2)
			checkHear(t, set, impl.Note{From: from, To: to, Count: 7, Mix: "no"}, 2)
			checkHear(t, set, impl.Note{From: from, To: to, Has: true, Sums: []string{"\x7f\x00", "\x80\x00"}}, 2)
		}
	}
}

func TestHearOfDrawnNotes(t *testing.T) {
	for seed := range 4000 {
		width := 1 + seed%3
		draw := drawn(seed, 12, allBytes())
		set := setOf(seed, int(draw[0])%12, width)
		note := impl.Note{From: drawn(seed+1, int(draw[1])%3, "\x20\x80\xe0"), To: drawn(seed+2, int(draw[2])%3, "\x20\x80\xe0\xff")}
		if draw[3]%2 == 0 {
			note.Count, note.Mix = int(draw[4])%9-1, drawn(seed+3, int(draw[5])%3, "\x00\x01")
		}
		if draw[6]%2 == 0 {
			note.Has, note.Sums = draw[7]%4 > 0, wantThere(setOf(seed+4, int(draw[8])%9, width), note.From, note.To)
		}
		if draw[9]%8 == 0 {
			note.Sums = append(note.Sums, drawn(seed+5, width, allBytes()))
		}
		checkHear(t, set, note, width)
		checkTell(t, set, note.From, note.To, width)
	}
}

// roomySums is a list with room behind its end, with what stands there.
func roomySums(sums []string) ([]string, func() bool) {
	whole := append(slices.Clone(sums), "behind", "that")
	before := slices.Clone(whole)
	return whole[:len(sums)], func() bool { return !slices.Equal(whole, before) }
}

func TestNotesLeaveArgumentsAlone(t *testing.T) {
	for _, sums := range [][]string{{}, {"cc"}, {"bb", "cc", "dd", "ee", "ff", "gg"}, {"cc", "bb"}, {"c"}} {
		set, setChanged := roomySums(sums)
		listed, listedChanged := roomySums([]string{"bc", "cc"})
		from, to := watch("b"), watch("g")
		impl.Tell(set, from.text, to.text, 2)
		mix := watch("no")
		for _, n := range []impl.Note{
			{From: from.text, To: to.text, Count: 9, Mix: mix.text},
			{From: from.text, To: to.text, Count: 3, Mix: mix.text},
			{From: to.text, To: from.text, Count: 3, Mix: mix.text},
			{From: from.text, To: to.text, Has: true, Sums: listed},
			{From: from.text, To: to.text, Mix: mix.text, Has: true, Sums: listed},
		} {
			impl.Hear(set, n, 2)
			if setChanged() || listedChanged() || from.changed() || to.changed() || mix.changed() {
				t.Errorf("%q, %s: an argument was written into", sums, shortNote(n))
			}
		}
	}
}

// fillSums overwrites a list with the room behind its end.
func fillSums(sums []string) {
	for i, room := 0, sums[:cap(sums)]; i < len(room); i++ {
		room[i] = "overwritten"
	}
}

// sharesText says whether one of texts has memory in common with one of others.
func sharesText(texts []string, others ...string) bool {
	for _, text := range texts {
		for _, other := range others {
			if shareMemory(text, other) {
				return true
			}
		}
	}
	return false
}

func TestNotesAreNewMemory(t *testing.T) {
	set, _ := roomySums(setOf(1, 9, 4))
	from, to := strings.Clone("\x01\x01"), strings.Clone("\xfe\xfe")
	told := impl.Tell(set, from, to, 4)
	if sharesText([]string{told.From, told.To, told.Mix}, append(set, from, to)...) {
		t.Error("what is told is shared")
	}
	listed, _ := roomySums(append([]string{"\x01\x01\x01\x01"}, set[2:7]...))
	for _, n := range []impl.Note{
		{From: from, To: to, Count: 9, Mix: "some"},
		{From: from, To: to, Count: 3, Mix: "some"},
		{From: from, To: to, Has: true, Sums: listed},
		{From: from, To: to, Has: true, Sums: listed[:0]},
		{From: from, To: to, Has: true, Sums: listed[:1]},
	} {
		checkNewNotes(t, set, n)
	}
}

// checkNewNotes overwrites all the room of an answer, list by list, and looks at what else may have changed.
func checkNewNotes(t *testing.T, set []string, n impl.Note) {
	t.Helper()
	setBefore, noteBefore := slices.Clone(set), copyNote(n)
	told, theirs, ours := impl.Hear(set, n, 4)
	given := slices.Concat(set, n.Sums, []string{n.From, n.To, n.Mix})
	if sharesText(theirs, given...) || sharesText(ours, given...) {
		t.Errorf("%s: what is learnt is shared", shortNote(n))
	}
	for _, note := range told {
		if sharesText([]string{note.From, note.To, note.Mix}, given...) || sharesText(note.Sums, given...) {
			t.Errorf("%s: what is told is shared", shortNote(n))
		}
		fillSums(note.Sums)
	}
	oursBefore := slices.Clone(ours)
	fillSums(theirs)
	if !slices.Equal(ours, oursBefore) {
		t.Errorf("%s: the two lists share memory", shortNote(n))
	}
	fillSums(ours)
	for i, room := 0, told[:cap(told)]; i < len(room); i++ {
		room[i] = impl.Note{From: "overwritten", Sums: []string{"overwritten"}}
	}
	if !slices.Equal(set, setBefore) || !sameNote(n, noteBefore) {
		t.Errorf("%s: an answer shares a list with an argument", shortNote(n))
	}
	checkHear(t, set, n, 4)
}

func TestNotesKeepNothing(t *testing.T) {
	a, b := setOf(1, 9, 4), setOf(2, 300, 4)
	for range 3 {
		checkTell(t, b, a[2], "", 4)
		checkHear(t, a, impl.Tell(b, "", "", 4), 4)
		hearsNothing(t, "wrong", b, impl.Note{Count: -1}, 4)
		checkHear(t, b, impl.Tell(a, "", "", 4), 4)
		checkTell(t, a, "", a[7], 4)
		checkHear(t, a, impl.Note{Has: true, Sums: b}, 4)
	}
}
