package tests

import (
	"encoding/binary"
	"math"
	"slices"
	"strconv"
	"strings"
	"testing"

	"loop.example/kilnpass/impl"
)

func badWidths() []int {
	return []int{0, -1, -8, impl.MaxWidth + 1, 16, 256 + 1, math.MinInt, math.MaxInt}
}

// sameSum is a text that differs from the given one and has its sum, of that width, which is a small one.
func sameSum(t *testing.T, text string, width int) string {
	t.Helper()
	sum := impl.Sum(text, width)
	for i := range 3000000 {
		if other := "like " + strconv.Itoa(i); other != text && impl.Sum(other, width) == sum {
			return other
		}
	}
	t.Fatalf("no other text with the sum of %.30q, width %d", text, width)
	return ""
}

// wantClash holds each text against all ahead of it, as the document says it.
func wantClash(texts []string, width int) (string, string, bool) {
	for j := range texts {
		for i := range j {
			if texts[i] != texts[j] && impl.Sum(texts[i], width) == impl.Sum(texts[j], width) {
				return texts[i], texts[j], true
			}
		}
	}
	return "", "", false
}

func checkClash(t *testing.T, texts []string, width int) bool {
	t.Helper()
	x, y, ok := impl.Clash(texts, width)
	wantX, wantY, wantOk := wantClash(texts, width)
	if x != wantX || y != wantY || ok != wantOk {
		t.Errorf("%d texts, width %d: %.30q %.30q %v, not %.30q %.30q %v", len(texts), width, x, y, ok, wantX, wantY, wantOk)
	}
	if ok && (x == y || impl.Sum(x, width) != impl.Sum(y, width)) {
		t.Errorf("%d texts, width %d: %.30q and %.30q show nothing", len(texts), width, x, y)
	}
	return ok
}

func noClash(t *testing.T, what string, texts []string, width int) {
	t.Helper()
	if x, y, ok := impl.Clash(texts, width); x != "" || y != "" || ok {
		t.Errorf("%s, width %d: %.30q %.30q %v", what, width, x, y, ok)
	}
}

func TestSumOfKnownTexts(t *testing.T) {
	for _, c := range []struct{ text, want string }{
		{"", "\xcb\xf2\x9c\xe4\x84\x22\x23\x25"},
		{"a", "\xaf\x63\xdc\x4c\x86\x01\xec\x8c"},
		{"foobar", "\x85\x94\x41\x71\xf7\x39\x67\xe8"},
		{"\x00", "\xaf\x63\xbd\x4c\x86\x01\xb7\xdf"},
	} {
		for width := 1; width <= impl.MaxWidth; width++ {
			if s := impl.Sum(c.text, width); s != c.want[8-width:] {
				t.Errorf("%q, width %d: %x", c.text, width, s)
			}
		}
	}
}

func TestSumOfEveryWidth(t *testing.T) {
	texts := []string{"", "a", "\x00", "\x00\x00", "a\x00", "\x00a", "\xff\xfe", "\xc3", "\u00e9", allBytes(), strings.Repeat("long ", 40000)}
	for i := range 100 {
		texts = append(texts, drawn(i, i*7, allBytes()))
	}
	for _, text := range texts {
		whole := string(binary.BigEndian.AppendUint64(nil, wantSum64(text)))
		for width := 1; width <= impl.MaxWidth; width++ {
			if s := impl.Sum(text, width); s != whole[8-width:] {
				t.Errorf("%.20q, width %d: %x, not %x", text, width, s, whole[8-width:])
			}
		}
	}
}

func TestSumOfNoWidth(t *testing.T) {
	for _, width := range badWidths() {
		for _, text := range []string{"", "a", allBytes()} {
			if s := impl.Sum(text, width); s != "" {
				t.Errorf("%.20q, width %d: %x", text, width, s)
			}
		}
	}
}

func TestClashAmongDrawnTexts(t *testing.T) {
	found := [impl.MaxWidth + 1][2]int{}
	for seed := range 60 {
		for _, width := range []int{1, 2, 3, impl.MaxWidth} {
			texts := []string{}
			for i := range seed * 2 {
				texts = append(texts, drawn(seed*1000+i, i%5, "ab\x00\xff"+lowLetters))
			}
			if checkClash(t, texts, width) {
				found[width][1]++
			} else {
				found[width][0]++
			}
		}
	}
	if found[1][0] == 0 || found[1][1] == 0 || found[2][0] == 0 {
		t.Errorf("these lists ask for too little: %v", found)
	}
}

func TestClashAmongManyTexts(t *testing.T) {
	texts := []string{}
	for i := range 1500 {
		texts = append(texts, "text "+strconv.Itoa(i))
	}
	for width := 1; width <= impl.MaxWidth; width++ {
		ok := checkClash(t, texts, width)
		if width <= 2 && !ok || width == impl.MaxWidth && ok {
			t.Errorf("width %d: %v", width, ok)
		}
	}
	for n := range 257 {
		checkClash(t, texts[:n+1], 1)
	}
	if _, _, ok := impl.Clash(texts[:257], 1); !ok {
		t.Error("257 different texts have at most 256 sums of one byte")
	}
}

func TestClashPairAndItsOrder(t *testing.T) {
	p, q := "p", "q"
	if impl.Sum(p, 1) == impl.Sum(q, 1) {
		t.Fatal("these two must have different sums")
	}
	p2, q2 := sameSum(t, p, 1), sameSum(t, q, 1)
	empty2 := sameSum(t, "", 1)
	for _, c := range []struct {
		texts []string
		x, y  string
	}{
		{[]string{p, p2}, p, p2},
		{[]string{p2, p}, p2, p},
		{[]string{p, q, q2, p2}, q, q2},
		{[]string{p, q, p2, q2}, p, p2},
		{[]string{p, p, q, p, q2, p2}, q, q2},
		{[]string{q2, p, p, p2, q}, p, p2},
		{[]string{"", empty2}, "", empty2},
		{[]string{empty2, p, ""}, empty2, ""},
	} {
		if x, y, ok := impl.Clash(c.texts, 1); x != c.x || y != c.y || !ok {
			t.Errorf("%q: %q %q %v", c.texts, x, y, ok)
		}
		checkClash(t, c.texts, 1)
	}
}

func TestClashOfWholeSums(t *testing.T) {
	for _, pair := range wholeClashes() {
		for width := 1; width <= impl.MaxWidth; width++ {
			texts := []string{pair[0], pair[0], pair[1]}
			if x, y, ok := impl.Clash(texts, width); x != pair[0] || y != pair[1] || !ok {
				t.Errorf("%q, width %d: %q %q %v", texts, width, x, y, ok)
			}
		}
	}
}

func TestClashOfNoTwoDifferentTexts(t *testing.T) {
	for width := 1; width <= impl.MaxWidth; width++ {
		noClash(t, "no list", nil, width)
		noClash(t, "no texts", []string{}, width)
		noClash(t, "one text", []string{"a"}, width)
		noClash(t, "one text twice", []string{"a", strings.Clone("a")}, width)
		noClash(t, "the empty text twice", []string{"", ""}, width)
		noClash(t, "one text very often", slices.Repeat([]string{"again"}, impl.MaxClash), width)
	}
}

func TestClashOfAnyBytes(t *testing.T) {
	for width := 1; width <= impl.MaxWidth; width++ {
		checkClash(t, []string{"", "\x00", "\x00\x00", "\xff", "\xff\xff", "\xc3", "\xc3\xa9", "\xed\xa0\x80", "\xef\xbf\xbd"}, width)
	}
	// Two texts that are one only for a reader of UTF-8 are different.
	noClash(t, "wrong UTF-8", []string{"\xff", "\xef\xbf\xbd"}, impl.MaxWidth)
	long := strings.Repeat("\x00", 100000)
	checkClash(t, []string{long, long + "\x00", sameSum(t, long, 1), sameSum(t, long+"\x00", 1)}, 1)
}

func TestClashLimit(t *testing.T) {
	texts := slices.Repeat([]string{"a"}, impl.MaxClash-1)
	texts = append(texts, sameSum(t, "a", 2))
	if x, y, ok := impl.Clash(texts, 2); x != "a" || y != texts[impl.MaxClash-1] || !ok {
		t.Errorf("MaxClash texts: %q %q %v", x, y, ok)
	}
	noClash(t, "one more than MaxClash", append(texts, "a"), 2)
	different := []string{}
	for i := range impl.MaxClash {
		different = append(different, strconv.Itoa(i))
	}
	noClash(t, "MaxClash different texts", different, impl.MaxWidth)
	checkClash(t, different, 2)
	noClash(t, "one more than MaxClash, the first two clash", append([]string{"a", sameSum(t, "a", 1)}, different[1:]...), 1)
}

func TestClashOfNoWidth(t *testing.T) {
	texts := []string{"a", "b", sameSum(t, "a", 1), sameSum(t, "b", 2)}
	for _, width := range badWidths() {
		noClash(t, "no width", texts, width)
		noClash(t, "no width, no texts", nil, width)
	}
}

func TestSumsLeaveArgumentsAlone(t *testing.T) {
	w := watch("a text that is looked at")
	for width := -1; width <= impl.MaxWidth+1; width++ {
		impl.Sum(w.text, width)
	}
	other := watch(sameSum(t, w.text, 1))
	room := []string{w.text, "b", w.text, other.text, "behind the end", "behind that"}
	before := slices.Clone(room)
	x, y, ok := impl.Clash(room[:4], 1)
	if !ok || x != w.text || y != other.text {
		t.Fatalf("%q %q %v", x, y, ok)
	}
	if !slices.Equal(room, before) || w.changed() || other.changed() {
		t.Errorf("an argument was written into: %q", room)
	}
	if shareMemory(x, w.text) || shareMemory(y, other.text) {
		t.Error("an answer shares memory with an argument")
	}
}

func TestSumsKeepNothing(t *testing.T) {
	first := impl.Sum("a", 8)
	impl.Clash([]string{"p", sameSum(t, "p", 1)}, 1)
	noClash(t, "a text of an earlier call clashes with this one", []string{sameSum(t, "p", 1)}, 1)
	if again := impl.Sum("a", 8); again != first {
		t.Errorf("%x, not %x", again, first)
	}
}
