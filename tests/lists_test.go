package tests

import (
	"encoding/hex"
	"fmt"
	"math"
	"regexp"
	"slices"
	"strconv"
	"strings"
	"testing"

	"loop.example/kilnpass/impl"
)

// wantForm writes a list line by line, as the document says it, valid or not.
func wantForm(l impl.List) string {
	out := fmt.Sprintf("size %d\n", l.Size)
	for _, sum := range l.Sums {
		out += fmt.Sprintf("%x\n", sum)
	}
	return out
}

// wantList is the list of a text, from the pieces that the document asks for.
func wantList(text string, width int) impl.List {
	l := impl.List{Size: len(text)}
	for _, p := range wantPieces(text) {
		l.Sums = append(l.Sums, impl.Sum(p, width))
	}
	return l
}

// formPatterns are the patterns of forms, by their width.
var formPatterns = func() (patterns [impl.MaxWidth + 1]*regexp.Regexp) {
	for width := range patterns {
		line := "[0-9a-f]{" + strconv.Itoa(2*width) + "}\n"
		patterns[width] = regexp.MustCompile(`\Asize (0|[1-9][0-9]{0,3})` + "\n(" + line + `)*\z`)
	}
	return patterns
}()

// wantRead reads a form by a pattern.
func wantRead(s string, width int) (impl.List, bool) {
	if width < 1 || width > impl.MaxWidth {
		return impl.List{}, false
	}
	if !formPatterns[width].MatchString(s) {
		return impl.List{}, false
	}
	lines := strings.Split(s, "\n")
	l := impl.List{}
	l.Size, _ = strconv.Atoi(lines[0][len("size "):])
	for _, digits := range lines[1 : len(lines)-1] {
		sum, _ := hex.DecodeString(digits)
		l.Sums = append(l.Sums, string(sum))
	}
	if l.Size > impl.MaxThing || len(l.Sums) > impl.MaxPieces {
		return impl.List{}, false
	}
	return l, true
}

func sameList(a, b impl.List) bool {
	return a.Size == b.Size && slices.Equal(a.Sums, b.Sums)
}

// shortList tells a list in few words.
func shortList(l impl.List) string {
	return fmt.Sprintf("%d bytes, %d sums %.40q", l.Size, len(l.Sums), l.Sums)
}

// sumsOf are n sums of a width, drawn.
func sumsOf(seed, n, width int) []string {
	out := []string{}
	for i := range n {
		out = append(out, drawn(seed*1000+i, width, allBytes()))
	}
	return out
}

func checkRead(t *testing.T, s string, width int) bool {
	t.Helper()
	l, ok := impl.ReadList(s, width)
	want, wantOk := wantRead(s, width)
	if !sameList(l, want) || ok != wantOk {
		t.Errorf("%d bytes %.60q, width %d: %s %v, not %s %v", len(s), s, width, shortList(l), ok, shortList(want), wantOk)
	}
	return ok
}

func notRead(t *testing.T, what, s string, width int) {
	t.Helper()
	if l, ok := impl.ReadList(s, width); ok || l.Size != 0 || len(l.Sums) != 0 {
		t.Errorf("%s, width %d, %.60q: %s %v", what, width, s, shortList(l), ok)
	}
}

func notFormed(t *testing.T, what string, l impl.List, width int) {
	t.Helper()
	if s := impl.FormList(l, width); s != "" {
		t.Errorf("%s, width %d: %.60q", what, width, s)
	}
}

// checkForm writes a valid list and reads it again.
func checkForm(t *testing.T, l impl.List, width int) string {
	t.Helper()
	s := impl.FormList(l, width)
	if s != wantForm(l) {
		t.Errorf("%s, width %d: %.60q", shortList(l), width, s)
	}
	if again, ok := impl.ReadList(s, width); !ok || !sameList(again, l) {
		t.Errorf("%s, width %d: read again %s %v", shortList(l), width, shortList(again), ok)
	}
	return s
}

func checkBuild(t *testing.T, what string, l impl.List, pieces []string, width int, want string, wantOk bool) {
	t.Helper()
	if text, ok := impl.Build(l, pieces, width); text != want || ok != wantOk {
		t.Errorf("%s, width %d, %s: %.30q %v, not %.30q %v", what, width, shortList(l), text, ok, want, wantOk)
	}
}

func notBuilt(t *testing.T, what string, l impl.List, pieces []string, width int) {
	t.Helper()
	checkBuild(t, what, l, pieces, width, "", false)
}

// checkThing asks all that the chapter says of one text at one width.
func checkThing(t *testing.T, text string, width int) {
	t.Helper()
	l := impl.Describe(text, width)
	if !sameList(l, wantList(text, width)) {
		t.Errorf("%d bytes %.30q, width %d: %s", len(text), text, width, shortList(l))
	}
	form := checkForm(t, l, width)
	if name := impl.Name(text, width); name != impl.Sum(form, width) || len(name) != width {
		t.Errorf("%d bytes %.30q, width %d: the name %x", len(text), text, width, name)
	}
	checkBuild(t, "its own pieces", l, impl.Pieces(text), width, text, true)
}

func TestListOfEveryWidth(t *testing.T) {
	p, q := block(1), block(2)
	texts := []string{"", "a", "\x00", "\xff\xfe", "short", p, p + q, p + "end", p + p + q + p, uncut(64, ""), uncut(200, ""), allBytes(),
		strings.Repeat("abcdefghij", 20), strings.Repeat(p, impl.MaxPieces), drawn(3, 1000, lowLetters), drawn(4, impl.MaxThing, allBytes())}
	for _, text := range texts {
		for width := 1; width <= impl.MaxWidth; width++ {
			checkThing(t, text, width)
		}
	}
}

func TestListOfManyTexts(t *testing.T) {
	for i, text := range someTexts() {
		checkThing(t, text, i%impl.MaxWidth+1)
	}
}

func TestFormByteByByte(t *testing.T) {
	for _, c := range []struct {
		l     impl.List
		width int
		want  string
	}{
		{impl.List{}, 1, "size 0\n"},
		{impl.List{Size: 0, Sums: []string{}}, 8, "size 0\n"},
		{impl.List{Size: 7}, 3, "size 7\n"},
		{impl.List{Size: 10, Sums: []string{"\x00"}}, 1, "size 10\n00\n"},
		{impl.List{Size: 100, Sums: []string{"\x09", "\x0a", "\x90", "\xa0", "\xff", "\x0f"}}, 1, "size 100\n09\n0a\n90\na0\nff\n0f\n"},
		{impl.List{Size: 3000, Sums: []string{"\x01\x23\x45\x67\x89\xab\xcd\xef"}}, 8, "size 3000\n0123456789abcdef\n"},
		{impl.List{Size: 1, Sums: []string{"\n\n", "\n ", "si"}}, 2, "size 1\n0a0a\n0a20\n7369\n"},
		{impl.Describe(strings.Repeat("abcdefghij", 20), 8), 8, "size 200\nc41b04dc59962f49\n6a5ca9dfa0bc3319\n2a25565458f0712d\n91c1bd944ee37565\n"},
		{impl.Describe("a", 2), 2, "size 1\nec8c\n"},
	} {
		if s := impl.FormList(c.l, c.width); s != c.want {
			t.Errorf("%s, width %d: %q, not %q", shortList(c.l), c.width, s, c.want)
		}
		if l, ok := impl.ReadList(c.want, c.width); !ok || !sameList(l, c.l) {
			t.Errorf("%q, width %d: %s %v", c.want, c.width, shortList(l), ok)
		}
	}
	for b := range 256 {
		checkForm(t, impl.List{Size: b, Sums: []string{string([]byte{byte(b)})}}, 1)
	}
}

func TestFormOfDrawnLists(t *testing.T) {
	forms := map[string]impl.List{}
	for seed := range 400 {
		width := seed%impl.MaxWidth + 1
		l := impl.List{Size: seed * 7 % (impl.MaxThing + 1), Sums: sumsOf(seed, seed%9, width)}
		form := checkForm(t, l, width)
		if other, ok := forms[form]; ok && !sameList(l, other) {
			t.Errorf("%q is the form of two lists", form)
		}
		forms[form] = l
	}
}

func TestListLimits(t *testing.T) {
	for width := 1; width <= impl.MaxWidth; width++ {
		for _, size := range []int{0, 1, 9, 10, 999, 1000, impl.MaxThing - 1, impl.MaxThing} {
			for _, n := range []int{0, 1, 2, impl.MaxPieces - 1, impl.MaxPieces} {
				checkForm(t, impl.List{Size: size, Sums: sumsOf(n, n, width)}, width)
			}
		}
		for _, size := range []int{-1, -5, impl.MaxThing + 1, 10000, math.MinInt, math.MaxInt} {
			l := impl.List{Size: size, Sums: sumsOf(1, 3, width)}
			notFormed(t, "a size that is none", l, width)
			notRead(t, "a size that is none", wantForm(l), width)
			notFormed(t, "a size that is none, no sums", impl.List{Size: size}, width)
			notRead(t, "a size that is none, no sums", wantForm(impl.List{Size: size}), width)
		}
		for _, n := range []int{impl.MaxPieces + 1, 2 * impl.MaxPieces, 3000} {
			l := impl.List{Size: impl.MaxThing, Sums: sumsOf(1, n, width)}
			notFormed(t, "too many sums", l, width)
			notRead(t, "too many sums", wantForm(l), width)
		}
	}
}

func TestFormOfWrongSums(t *testing.T) {
	for width := 1; width <= impl.MaxWidth; width++ {
		for size := range impl.MaxWidth + 3 {
			if size == width {
				continue
			}
			wrong := strings.Repeat("s", size)
			right := sumsOf(size, 2, width)
			for _, sums := range [][]string{{wrong}, {wrong, wrong}, {wrong, right[0]}, {right[0], wrong}, {right[0], wrong, right[1]}} {
				notFormed(t, "a sum of another size", impl.List{Size: 100, Sums: sums}, width)
				notRead(t, "a sum of another size", wantForm(impl.List{Size: 100, Sums: sums}), width)
				notBuilt(t, "a sum of another size", impl.List{Size: 100, Sums: sums}, make([]string, len(sums)), width)
			}
		}
		// Two of the wrong size that have the right number of bytes together.
		notFormed(t, "sums of different sizes", impl.List{Size: 9, Sums: []string{strings.Repeat("s", width-1), strings.Repeat("s", width+1)}}, width)
	}
}

func TestListsOfNoWidth(t *testing.T) {
	text := drawn(1, 300, lowLetters)
	for _, width := range badWidths() {
		for _, text := range []string{"", "a", text, strings.Repeat("x", impl.MaxThing+1)} {
			if l := impl.Describe(text, width); l.Size != 0 || len(l.Sums) != 0 {
				t.Errorf("%.20q, width %d: %s", text, width, shortList(l))
			}
			if name := impl.Name(text, width); name != "" {
				t.Errorf("%.20q, width %d: the name %x", text, width, name)
			}
		}
		for _, l := range []impl.List{{}, {Size: 3}, {Size: 5, Sums: []string{""}}, {Size: 5, Sums: []string{"s"}}, impl.Describe(text, 8), {Size: 9, Sums: []string{"123456789"}}} {
			notFormed(t, "no width", l, width)
			notRead(t, "no width", wantForm(l), width)
			notBuilt(t, "no width", l, nil, width)
			notBuilt(t, "no width", l, impl.Pieces(text), width)
			notBuilt(t, "no width", l, make([]string, len(l.Sums)), width)
		}
		notRead(t, "no width", "", width)
	}
}

func TestListOfMaxThing(t *testing.T) {
	for _, text := range []string{strings.Repeat(block(4), impl.MaxPieces), uncut(impl.MaxThing, ""), drawn(2, impl.MaxThing, allBytes())} {
		for width := 1; width <= impl.MaxWidth; width++ {
			checkThing(t, text, width)
			checkThing(t, text[1:], width)
			long := text + "z"
			if l := impl.Describe(long, width); l.Size != 0 || len(l.Sums) != 0 {
				t.Errorf("one more than MaxThing, width %d: %s", width, shortList(l))
			}
			if name := impl.Name(long, width); name != "" {
				t.Errorf("one more than MaxThing, width %d: the name %x", width, name)
			}
			// What holds of the text without its last byte is no list of the longer one.
			pieces := append(impl.Pieces(text), "z")
			sums := append(impl.Describe(text, width).Sums, impl.Sum("z", width))
			notBuilt(t, "a text that is too long", impl.List{Size: impl.MaxThing + 1, Sums: sums}, pieces, width)
			notBuilt(t, "a text that is too long", impl.List{Size: impl.MaxThing, Sums: sums}, pieces, width)
			notBuilt(t, "a text that is too long, as nothing", impl.List{}, pieces, width)
			notBuilt(t, "a text that is too long, with one piece", impl.List{Size: impl.MaxThing, Sums: []string{impl.Sum(long, width)}}, []string{long}, width)
		}
	}
}

func TestEmptyThing(t *testing.T) {
	for width := 1; width <= impl.MaxWidth; width++ {
		checkThing(t, "", width)
		checkBuild(t, "no pieces", impl.List{}, nil, width, "", true)
		checkBuild(t, "no pieces", impl.List{Sums: []string{}}, []string{}, width, "", true)
		if name := impl.Name("", width); name != impl.Sum("size 0\n", width) {
			t.Errorf("width %d: the name %x", width, name)
		}
		notBuilt(t, "an empty piece more", impl.List{}, []string{""}, width)
		notBuilt(t, "an empty piece with its sum", impl.List{Sums: []string{impl.Sum("", width)}}, []string{""}, width)
		notBuilt(t, "no pieces and a size", impl.List{Size: 1}, nil, width)
		notBuilt(t, "no pieces and MaxThing", impl.List{Size: impl.MaxThing}, nil, width)
		notBuilt(t, "a piece and no sum", impl.List{Size: 1}, []string{"a"}, width)
	}
}

func TestReadOfNearlyForms(t *testing.T) {
	read := 0
	for _, c := range []struct {
		form  string
		width int
	}{
		{"size 0\n", 1},
		{"size 3000\n", 2},
		{"size 10\n0f\n90\n", 1},
		{"size 299\n0a1b2c\nffffff\n000000\n", 3},
		{"size 64\n0123456789abcdef\n", 8},
	} {
		if !checkRead(t, c.form, c.width) {
			t.Errorf("%q is a form", c.form)
		}
		for i := range len(c.form) + 1 {
			checkRead(t, c.form[:i], c.width)
			checkRead(t, c.form[i:], c.width)
			for b := range 256 {
				more := string([]byte{byte(b)})
				if checkRead(t, c.form[:i]+more+c.form[i:], c.width) {
					read++
				}
				if i < len(c.form) && checkRead(t, c.form[:i]+more+c.form[i+1:], c.width) {
					read++
				}
			}
			for j := i; j <= len(c.form); j++ {
				checkRead(t, c.form[:i]+c.form[j:], c.width)
				checkRead(t, c.form[:j]+c.form[i:], c.width)
			}
		}
		for width := -1; width <= impl.MaxWidth+2; width++ {
			checkRead(t, c.form, width)
		}
	}
	if read < 500 {
		t.Errorf("only %d of these texts are forms", read)
	}
}

func TestReadOfWrongTexts(t *testing.T) {
	for _, c := range []struct{ what, s string }{
		{"the empty text", ""},
		{"a newline alone", "\n"},
		{"no last newline", "size 0"},
		{"no last newline behind a sum", "size 8\n0f"},
		{"no size", "size\n"},
		{"an empty size", "size \n"},
		{"no word", "8\n0f\n"},
		{"no size line", "0f\n"},
		{"an empty first line", "\nsize 0\n"},
		{"an empty line at the end", "size 0\n\n"},
		{"an empty line in the middle", "size 8\n\n0f\n"},
		{"an empty line behind the sums", "size 8\n0f\n\n"},
		{"a needless zero", "size 00\n"},
		{"a needless zero", "size 08\n0f\n"},
		{"very many zeros", "size " + strings.Repeat("0", 5000) + "8\n"},
		{"a plus", "size +8\n"},
		{"a minus", "size -8\n"},
		{"a minus ahead of zero", "size -0\n"},
		{"a plus ahead of zero", "size +0\n"},
		{"a space too many ahead of the size", "size  8\n"},
		{"a space ahead of the word", " size 8\n"},
		{"a space behind the size", "size 8 \n"},
		{"a tab", "size\t8\n"},
		{"a space ahead of a sum", "size 8\n 0f\n"},
		{"a space behind a sum", "size 8\n0f \n"},
		{"a space in place of a digit", "size 8\n f\n"},
		{"a carriage return", "size 8\r\n0f\r\n"},
		{"a carriage return behind a sum", "size 8\n0f\r\n"},
		{"a capital word", "Size 8\n"},
		{"another word", "sizes 8\n"},
		{"a capital digit", "size 8\n0F\n"},
		{"capital digits", "size 8\nAF\n"},
		{"no digit", "size 8\n0g\n"},
		{"no digit", "size 8\n/0\n"},
		{"no digit", "size 8\n0:\n"},
		{"no digit", "size 8\n`0\n"},
		{"a sign in a sum", "size 8\n+1\n"},
		{"a sign in a sum", "size 8\n-1\n"},
		{"an underscore", "size 1_0\n"},
		{"an underscore in a sum", "size 8\n_1\n"},
		{"a number of another kind", "size 0x8\n"},
		{"a number of another kind", "size 8.0\n"},
		{"a number of another kind", "size 1e3\n"},
		{"a digit of another script", "size \u0668\n"},
		{"digits of another script", "size 8\n\u0668\n"},
		{"a wide digit", "size \uff18\n"},
		{"an odd number of digits", "size 8\n0\n"},
		{"an odd number of digits", "size 8\n0f0\n"},
		{"a line of another width", "size 8\n0f0f\n"},
		{"a later line of another width", "size 8\n0f\n0f0f\n"},
		{"an earlier line of another width", "size 8\n0f0f\n0f\n"},
		{"two sums in one line", "size 8\n0f 0f\n"},
		{"anything behind the last line", "size 8\n0f\nx"},
		{"a zero byte behind the last line", "size 8\n0f\n\x00"},
		{"a space behind the last line", "size 8\n0f\n "},
		{"digits behind the last line", "size 8\n0f\n0f"},
		{"a second size", "size 8\nsize 8\n"},
		{"a size at the end", "0f\nsize 8\n"},
		{"one more than MaxThing", "size 3001\n"},
		{"a number of five digits", "size 10000\n"},
		{"a number that wraps round", "size 18446744073709551624\n"},
		{"a number that wraps round", "size 4294967304\n"},
		{"a number that is too great", "size 9223372036854775808\n"},
		{"very many digits", "size " + strings.Repeat("1234567890", 2000) + "\n"},
		{"very many digits, and a sum", "size " + strings.Repeat("9", 100000) + "\n0f\n"},
		{"a very long sum", "size 8\n" + strings.Repeat("0f", 50000) + "\n"},
		{"very many newlines", strings.Repeat("\n", 100000)},
		{"very many empty lines", "size 8\n" + strings.Repeat("\n", 100000)},
		{"very many sums", "size 8\n" + strings.Repeat("0f\n", 100000)},
		{"very many sums, and no newline", "size 8\n" + strings.Repeat("0f\n", 374) + "0f"},
		{"wrong UTF-8", "size 8\n\xff\xfe\n"},
		{"zero bytes", "size 8\n\x00\x00\n"},
	} {
		notRead(t, c.what, c.s, 1)
		checkRead(t, c.s, 1)
	}
}

func TestReadOfDrawnTexts(t *testing.T) {
	for seed := range 3000 {
		checkRead(t, drawn(seed, seed%40, "size 0123af\n"), seed%3+1)
		checkRead(t, "size "+drawn(seed, seed%7, "0123 \n")+"\n"+drawn(seed+1, seed%12, "0af\n")+"\n", seed%3+1)
	}
	for seed := range 300 {
		width := seed%impl.MaxWidth + 1
		form := []byte(impl.FormList(impl.Describe(drawn(seed, seed*3, lowLetters), width), width))
		form[seed*37%len(form)] = allBytes()[seed*91%256]
		checkRead(t, string(form), width)
	}
}

func TestNamesOfNearlyTheSame(t *testing.T) {
	for seed := range 30 {
		text := drawn(seed, 500+seed*40, lowLetters)
		names := map[string]string{}
		for at := 0; at < len(text); at += 23 {
			for _, near := range []string{text, text[:at] + "X" + text[at+1:], text[:at] + "X" + text[at:], text[:at] + text[at+1:], text[:at], text[at:]} {
				name := impl.Name(near, impl.MaxWidth)
				if other, ok := names[name]; ok && other != near {
					t.Errorf("%.20q and %.20q, %d and %d bytes: one name", near, other, len(near), len(other))
				}
				names[name] = near
			}
		}
	}
	p, q := block(1), block(2)
	if impl.Name(p+q, 8) == impl.Name(q+p, 8) || impl.Name(p+p, 8) == impl.Name(p, 8) {
		t.Error("the order and the number of pieces are in the name")
	}
}

// checkShown asks that two different texts with one name show two different texts with one sum.
func checkShown(t *testing.T, a, b string, width int) {
	t.Helper()
	if a == b || impl.Name(a, width) != impl.Name(b, width) || impl.Name(a, width) == "" {
		t.Fatalf("%.30q and %.30q, width %d, must be two texts with one name", a, b, width)
	}
	texts := []string{impl.FormList(impl.Describe(a, width), width), impl.FormList(impl.Describe(b, width), width)}
	texts = append(texts, impl.Pieces(a)...)
	texts = append(texts, impl.Pieces(b)...)
	x, y, ok := impl.Clash(texts, width)
	if !ok || x == y || impl.Sum(x, width) != impl.Sum(y, width) {
		t.Errorf("%.30q and %.30q, width %d, have one name and show nothing", a, b, width)
	}
}

func TestOneNameShowsOneSum(t *testing.T) {
	for width := 1; width <= 2; width++ {
		seen := map[string]string{}
		pairs, sameForm := 0, 0
		for i := range 4000 {
			// Many of one size, so that some differ in a piece alone and not in their lists.
			text := drawn(i, []int{i * 11 % 700, 20}[i%2], lowLetters)
			name := impl.Name(text, width)
			other, ok := seen[name]
			seen[name] = text
			if !ok || other == text {
				continue
			}
			pairs++
			checkShown(t, other, text, width)
			if sameList(impl.Describe(other, width), impl.Describe(text, width)) {
				sameForm++
			}
		}
		if pairs < 50 || width == 1 && (sameForm == 0 || sameForm == pairs) {
			t.Errorf("width %d: %d pairs with one name, %d of them with one list", width, pairs, sameForm)
		}
	}
}

func TestOneNameOfWholeSums(t *testing.T) {
	for _, pair := range wholeClashes()[:2] {
		for _, ahead := range []string{"", block(7), block(7) + block(8)} {
			for width := 1; width <= impl.MaxWidth; width++ {
				a, b := ahead+pair[0], ahead+pair[1]
				checkShown(t, a, b, width)
				checkThing(t, a, width)
				checkThing(t, b, width)
				// Each of them is a text whose Describe is the list.
				checkBuild(t, "the other one's pieces", impl.Describe(a, width), impl.Pieces(b), width, b, true)
			}
		}
	}
}

func TestBuildOfOtherPieces(t *testing.T) {
	for seed := range 40 {
		text := drawn(seed, 400+seed, lowLetters)
		pieces := impl.Pieces(text)
		for _, width := range []int{4, impl.MaxWidth} {
			l := impl.Describe(text, width)
			last := len(pieces) - 1
			notBuilt(t, "no pieces", l, nil, width)
			notBuilt(t, "all but the first", l, pieces[1:], width)
			notBuilt(t, "all but the last", l, pieces[:last], width)
			notBuilt(t, "a piece more", l, append(slices.Clone(pieces), pieces[0]), width)
			notBuilt(t, "an empty piece more", l, append(slices.Clone(pieces), ""), width)
			notBuilt(t, "an empty piece ahead", l, append([]string{""}, pieces...), width)
			notBuilt(t, "all in one", l, []string{text}, width)
			for i := range pieces {
				other := slices.Clone(pieces)
				other[i] = pieces[i][1:] + "X"
				notBuilt(t, "another piece of that size", l, other, width)
				other[i] = pieces[i] + "X"
				notBuilt(t, "a longer piece", l, other, width)
				other[i] = pieces[i][1:]
				notBuilt(t, "a shorter piece", l, other, width)
				other[i] = ""
				notBuilt(t, "an empty piece", l, other, width)
				other = slices.Clone(pieces)
				other[i], other[(i+1)%len(pieces)] = other[(i+1)%len(pieces)], other[i]
				notBuilt(t, "two pieces in another order", l, other, width)
			}
			slices.Reverse(pieces)
			notBuilt(t, "the other way round", l, pieces, width)
			slices.Reverse(pieces)
			for _, size := range []int{-1, 0, 1, len(text) - 1, len(text) + 1, impl.MaxThing, impl.MaxThing + 1, math.MinInt, math.MaxInt} {
				notBuilt(t, "a size that the pieces do not have", impl.List{Size: size, Sums: l.Sums}, pieces, width)
			}
			checkBuild(t, "its pieces", l, pieces, width, text, true)
			for other := 1; other <= impl.MaxWidth; other++ {
				if other != width {
					notBuilt(t, "another width", l, pieces, other)
				}
			}
		}
	}
}

// listOf is the list of pieces as they are, whether a text has it or not.
func listOf(pieces []string, width int) impl.List {
	l := impl.List{}
	for _, p := range pieces {
		l.Size += len(p)
		l.Sums = append(l.Sums, impl.Sum(p, width))
	}
	return l
}

func TestBuildOfListThatNoTextHas(t *testing.T) {
	p, q := block(5), block(6)
	long := uncut(impl.MaxPiece, "")
	for _, pieces := range [][]string{
		{"abcd", "efgh"},
		{"a", p},
		{p + q},
		{p[:4], p[4:]},
		{p, "", q},
		{p, q, ""},
		{"", p, q},
		{""},
		{"", ""},
		{p[:3], p[3:] + q},
		{p + q[:1], q[1:]},
		{long + "x"},
		{long[:63], long[63:]},
		{long[:40], long[40:] + "x"},
		{p, "ab", "cd"},
		slices.Repeat([]string{"a"}, impl.MaxPieces),
		{strings.Repeat("x", impl.MaxThing)},
	} {
		for _, width := range []int{3, impl.MaxWidth} {
			l := listOf(pieces, width)
			checkForm(t, l, width)
			notBuilt(t, "pieces that are cut elsewhere", l, pieces, width)
			text := strings.Join(pieces, "")
			checkBuild(t, "the pieces of that text", impl.Describe(text, width), impl.Pieces(text), width, text, true)
			notBuilt(t, "the pieces of that text and the list", l, impl.Pieces(text), width)
			notBuilt(t, "the list of that text and the pieces", impl.Describe(text, width), pieces, width)
		}
	}
	for _, l := range []impl.List{{Size: 0, Sums: sumsOf(1, 1, 8)}, {Size: 1}, {Size: 1, Sums: sumsOf(1, 2, 8)}, {Size: impl.MaxThing}, {Size: impl.MaxThing, Sums: sumsOf(1, 1, 8)}, {Size: 8, Sums: sumsOf(1, impl.MaxPieces, 8)}} {
		checkForm(t, l, 8)
		notBuilt(t, "no pieces", l, nil, 8)
		notBuilt(t, "empty pieces", l, make([]string, len(l.Sums)), 8)
	}
}

// TestBuildOfSumsThatClash takes, for a piece, another text with its sum: whether a text comes out hangs on its own list alone.
func TestBuildOfSumsThatClash(t *testing.T) {
	built, refused := 0, 0
	for seed := range 400 {
		text := drawn(seed, 60+seed%50, lowLetters)
		pieces := impl.Pieces(text)
		l := impl.Describe(text, 1)
		at := seed % len(pieces)
		for try := range 600 {
			other := slices.Clone(pieces)
			other[at] = drawn(seed*1000+try, len(pieces[at]), lowLetters)
			if impl.Sum(other[at], 1) != l.Sums[at] {
				continue
			}
			whole := strings.Join(other, "")
			if sameList(wantList(whole, 1), l) {
				built++
				checkBuild(t, "a piece that clashes", l, other, 1, whole, true)
			} else {
				refused++
				notBuilt(t, "a piece that clashes and is cut elsewhere", l, other, 1)
			}
		}
	}
	if built < 20 || refused < 20 {
		t.Errorf("these pieces ask for too little: %d built, %d refused", built, refused)
	}
}

// TestBuildOfPiecesCutElsewhere: the document asks that each piece has its Sum, not that it is one of Pieces of the text.
func TestBuildOfPiecesCutElsewhere(t *testing.T) {
	found := 0
	for seed := range 4000 {
		text := drawn(seed, 90, lowLetters)
		pieces := impl.Pieces(text)
		if len(pieces) != 2 {
			continue
		}
		l := impl.Describe(text, 1)
		for at := range len(text) + 1 {
			other := []string{text[:at], text[at:]}
			if at != len(pieces[0]) && sameList(listOf(other, 1), l) {
				found++
				checkBuild(t, "cut elsewhere, with the same sums", l, other, 1, text, true)
			}
		}
	}
	if found == 0 {
		t.Error("no text with two cuts that have the same sums")
	}
}

// TestBuildOfTooFewPieces: the text is right, and each piece has its Sum, but they are fewer than the Sums.
func TestBuildOfTooFewPieces(t *testing.T) {
	found := 0
	for seed := range 4000 {
		text := drawn(seed, 70, lowLetters)
		l := impl.Describe(text, 1)
		if len(l.Sums) > 1 && impl.Sum(text, 1) == l.Sums[0] {
			found++
			notBuilt(t, "all in one, with the first sum", l, []string{text}, 1)
		}
	}
	if found == 0 {
		t.Error("no text that has its first piece's sum")
	}
}

// TestBuildOfTooManyPieces: the text is right, and the first pieces have their Sums, but empty ones stand behind or between.
func TestBuildOfTooManyPieces(t *testing.T) {
	for seed := range 100 {
		text := drawn(seed, 70, lowLetters)
		l := impl.Describe(text, 1)
		for n := 1; n < 4; n++ {
			notBuilt(t, "empty pieces behind", l, append(impl.Pieces(text), make([]string, n)...), 1)
			notBuilt(t, "empty pieces ahead", l, append(make([]string, n), impl.Pieces(text)...), 1)
		}
	}
}

func TestThingWithOnePieceOften(t *testing.T) {
	p, q := block(1), block(2)
	for width := 1; width <= impl.MaxWidth; width++ {
		text := p + q + p + p + "end"
		l := impl.Describe(text, width)
		if want := []string{impl.Sum(p, width), impl.Sum(q, width), impl.Sum(p, width), impl.Sum(p, width), impl.Sum("end", width)}; !slices.Equal(l.Sums, want) || l.Size != 35 {
			t.Errorf("width %d: %s", width, shortList(l))
		}
		checkThing(t, text, width)
		notBuilt(t, "each piece once", l, []string{p, q, "end"}, width)
		checkThing(t, strings.Repeat(p, impl.MaxPieces), width)
	}
}

func TestListsLeaveArgumentsAlone(t *testing.T) {
	text := watch(drawn(1, 700, allBytes()))
	form := watch(impl.FormList(impl.Describe(text.text, 8), 8))
	l, ok := impl.ReadList(form.text, 8)
	if !ok || !sameList(l, impl.Describe(text.text, 8)) || impl.Name(text.text, 8) != impl.Sum(form.text, 8) {
		t.Fatal("the text and its form must be read")
	}
	sums := append(slices.Clone(l.Sums), "behind", "that")
	pieces := append(impl.Pieces(text.text), "behind", "that")
	sumsBefore, piecesBefore := slices.Clone(sums), slices.Clone(pieces)
	given := impl.List{Size: l.Size, Sums: sums[:len(l.Sums)]}
	if s := impl.FormList(given, 8); s != form.text || shareMemory(s, form.text) {
		t.Errorf("%.30q", s)
	}
	checkBuild(t, "a part of longer lists", given, pieces[:len(l.Sums)], 8, text.text, true)
	notBuilt(t, "a part of longer lists", given, pieces[:len(l.Sums)+1], 8)
	notBuilt(t, "a part of longer lists", given, pieces[:len(l.Sums)-1], 8)
	notRead(t, "a form and more", form.text+"x", 8)
	if text.changed() || form.changed() || !slices.Equal(sums, sumsBefore) || !slices.Equal(pieces, piecesBefore) {
		t.Error("an argument was written into")
	}
}

func TestBuiltTextIsNewMemory(t *testing.T) {
	for _, text := range []string{uncut(20, ""), block(1), block(1) + block(2), drawn(3, 900, lowLetters)} {
		pieces := impl.Pieces(text)
		built, ok := impl.Build(impl.Describe(text, 8), pieces, 8)
		if !ok || built != text {
			t.Fatalf("%.20q: %.20q %v", text, built, ok)
		}
		for _, p := range pieces {
			if shareMemory(built, p) {
				t.Errorf("%.20q shares memory with a piece", text)
			}
		}
	}
}

func TestListsAreNewMemory(t *testing.T) {
	text := drawn(2, 800, lowLetters)
	want := slices.Clone(impl.Describe(text, 8).Sums)
	form := impl.FormList(impl.List{Size: 800, Sums: want}, 8)
	for _, answer := range []func() impl.List{
		func() impl.List { return impl.Describe(text, 8) },
		func() impl.List { l, _ := impl.ReadList(form, 8); return l },
	} {
		one, other := answer(), answer()
		room := one.Sums[:cap(one.Sums)]
		for i := range room {
			room[i] = "overwritten"
		}
		if !slices.Equal(other.Sums, want) || !slices.Equal(answer().Sums, want) {
			t.Error("two answers share memory")
		}
		for _, sum := range other.Sums {
			if shareMemory(sum, text) || shareMemory(sum, form) {
				t.Error("an answer shares memory with an argument")
			}
		}
	}
}

func TestListsKeepNothing(t *testing.T) {
	text := drawn(6, 300, lowLetters)
	l := impl.Describe(text, 8)
	form := impl.FormList(l, 8)
	notRead(t, "no form", form+"\n", 8)
	notBuilt(t, "no pieces", l, nil, 8)
	if again, ok := impl.ReadList("size 5\n", 8); !ok || again.Size != 5 || len(again.Sums) != 0 {
		t.Errorf("%s %v", shortList(again), ok)
	}
	checkBuild(t, "its pieces", l, impl.Pieces(text), 8, text, true)
	checkThing(t, text, 8)
}
