package tests

import (
	"slices"
	"strconv"
	"strings"
	"testing"

	"loop.example/kilnpass/impl"
)

// cutsHere says whether the last MinPiece bytes of a text tell a piece to end.
func cutsHere(text string) bool {
	return len(text) >= impl.MinPiece && wantSum64(text[len(text)-impl.MinPiece:])%16 == 0
}

// wantPieces cuts a text as the document says it, piece by piece.
func wantPieces(text string) []string {
	if len(text) > impl.MaxThing {
		return nil
	}
	out := []string{}
	for text != "" {
		n := 1
		for n < len(text) && n < impl.MaxPiece && !cutsHere(text[:n]) {
			n++
		}
		out = append(out, text[:n])
		text = text[n:]
	}
	return out
}

func wantShared(a, b string) int {
	n := 0
	ofA := wantPieces(a)
	for _, p := range wantPieces(b) {
		if slices.Contains(ofA, p) {
			n += len(p)
		}
	}
	return n
}

func checkPieces(t *testing.T, text string) []string {
	t.Helper()
	pieces := impl.Pieces(text)
	if !slices.Equal(pieces, wantPieces(text)) {
		t.Errorf("%d bytes %.30q: sizes %v, not %v", len(text), text, sizesOf(pieces), sizesOf(wantPieces(text)))
	}
	if len(text) > impl.MaxThing {
		return pieces
	}
	if strings.Join(pieces, "") != text {
		t.Errorf("%d bytes %.30q: put together they are another text", len(text), text)
	}
	if len(pieces) > impl.MaxPieces {
		t.Errorf("%d bytes %.30q: %d pieces", len(text), text, len(pieces))
	}
	for i, p := range pieces {
		if len(p) > impl.MaxPiece || len(p) == 0 || i < len(pieces)-1 && len(p) < impl.MinPiece {
			t.Errorf("%d bytes %.30q: piece %d of %d has %d bytes", len(text), text, i, len(pieces), len(p))
		}
	}
	return pieces
}

func sizesOf(pieces []string) []int {
	out := []int{}
	for _, p := range pieces {
		out = append(out, len(p))
	}
	return out
}

// block is a text of MinPiece bytes that is a piece of its own; another one for another seed.
func block(seed int) string {
	for i := 0; ; i++ {
		if text := drawn(seed*100000+i, impl.MinPiece, lowLetters); cutsHere(text) {
			return text
		}
	}
}

// uncut is a text of n bytes that, put behind the one ahead, has no byte at which a piece ends by its own bytes.
func uncut(n int, ahead string) string {
	text := ahead
	for i := 0; len(text) < len(ahead)+n; i++ {
		if next := text + lowLetters[i%26:i%26+1]; !cutsHere(next) {
			text = next
		}
	}
	return text[len(ahead):]
}

// cutAt is a text of n bytes at the last of which, and at no byte ahead of it, its own bytes tell a piece to end.
func cutAt(n int) string {
	for i := 0; ; i++ {
		text := uncut(n-2, strconv.Itoa(i))
		for x := range 26 * 26 {
			whole := text + lowLetters[x/26:x/26+1] + lowLetters[x%26:x%26+1]
			if cutsHere(whole) && !cutsHere(whole[:n-1]) {
				return whole
			}
		}
	}
}

// someTexts are texts of all kinds and of many sizes.
func someTexts() []string {
	texts := []string{"", allBytes(), strings.Repeat(allBytes(), 11), strings.Repeat(block(1), 40), block(1) + "\x00" + block(2)}
	for b := range 256 {
		texts = append(texts, strings.Repeat(string([]byte{byte(b)}), 150))
	}
	for n := range 200 {
		texts = append(texts, drawn(n, n, allBytes()), drawn(n, n, lowLetters), drawn(n, n, "\x00\xff"))
	}
	for i := range 60 {
		n := impl.MaxThing - i*49
		texts = append(texts, drawn(i, n, allBytes()), drawn(i, n, lowLetters), drawn(i, n, "ab"), strings.Repeat(drawn(i, i+1, lowLetters), n/(i+1)))
	}
	return texts
}

func TestPiecesOfManyTexts(t *testing.T) {
	ends := map[string]int{}
	for _, text := range someTexts() {
		pieces := checkPieces(t, text)
		for i, p := range pieces {
			switch {
			case cutsHere(p):
				ends["by its bytes"]++
			case len(p) == impl.MaxPiece:
				ends["by its size"]++
			case i == len(pieces)-1:
				ends["by the text"]++
			}
		}
	}
	if ends["by its bytes"] < 1000 || ends["by its size"] < 100 || ends["by the text"] < 100 {
		t.Errorf("these texts ask for too little: %v", ends)
	}
}

func TestPiecesOfEveryBeginning(t *testing.T) {
	text := drawn(5, 700, lowLetters)
	for n := range len(text) + 1 {
		checkPieces(t, text[:n])
	}
}

func TestPiecesOfShortTexts(t *testing.T) {
	if p := impl.Pieces(""); len(p) != 0 {
		t.Errorf("the empty text: %q", p)
	}
	short := 0
	for n := 1; n < impl.MinPiece; n++ {
		for seed := range 200 {
			text := drawn(seed, n, allBytes())
			if p := checkPieces(t, text); len(p) != 1 {
				t.Errorf("%q: %q", text, p)
			}
			if wantSum64(text)%16 == 0 {
				short++
			}
		}
	}
	if short == 0 {
		t.Error("none of these texts has a sum that would cut it")
	}
}

func TestPieceOfJustMinPiece(t *testing.T) {
	for seed := range 20 {
		a, b := block(seed), block(seed+100)
		for _, c := range []struct {
			text string
			want []string
		}{
			{a, []string{a}},
			{a + b, []string{a, b}},
			{a + a + a, []string{a, a, a}},
			{a + "!", []string{a, "!"}},
			{a + b[:impl.MinPiece-1], []string{a, b[:impl.MinPiece-1]}},
		} {
			if p := checkPieces(t, c.text); !slices.Equal(p, c.want) {
				t.Errorf("%q: %q, not %q", c.text, p, c.want)
			}
		}
	}
	for n := range 30 {
		text := uncut(impl.MinPiece+n, "")
		if p := checkPieces(t, text); !slices.Equal(p, []string{text}) {
			t.Errorf("%q: %q", text, p)
		}
	}
}

func TestPieceOfEverySize(t *testing.T) {
	for n := impl.MinPiece; n <= impl.MaxPiece; n++ {
		first := cutAt(n)
		for _, rest := range []string{"", "z", block(3), block(3) + "z"} {
			want := append([]string{first}, wantPieces(rest)...)
			if p := checkPieces(t, first+rest); !slices.Equal(p, want) {
				t.Errorf("a cut at %d bytes and %q: sizes %v", n, rest, sizesOf(p))
			}
		}
	}
}

func TestPieceOfJustMaxPiece(t *testing.T) {
	for _, c := range []struct {
		text string
		want []int
	}{
		{uncut(63, ""), []int{63}},
		{uncut(64, ""), []int{64}},
		{uncut(65, ""), []int{64, 1}},
		{uncut(72, ""), []int{64, 8}},
		{uncut(128, ""), []int{64, 64}},
		{uncut(193, ""), []int{64, 64, 64, 1}},
		{cutAt(64), []int{64}},
		{cutAt(64) + "z", []int{64, 1}},
		// The eight bytes that would cut do not lie in one piece.
		{cutAt(65), []int{64, 1}},
		{cutAt(71), []int{64, 7}},
		{cutAt(72) + "z", []int{64, 8, 1}},
	} {
		if p := checkPieces(t, c.text); !slices.Equal(sizesOf(p), c.want) {
			t.Errorf("%d bytes: sizes %v, not %v", len(c.text), sizesOf(p), c.want)
		}
	}
}

func TestLastPiece(t *testing.T) {
	text := drawn(9, 1000, lowLetters)
	end := 0
	for i, p := range impl.Pieces(text) {
		end += len(p)
		// A text that ends just at a cut has no piece behind it.
		if got := checkPieces(t, text[:end]); len(got) != i+1 || got[i] != p {
			t.Errorf("ended behind piece %d: sizes %v", i, sizesOf(got))
		}
		if got := checkPieces(t, text[:end-1]); len(got) != i+1 || got[i] != p[:len(p)-1] {
			t.Errorf("ended a byte ahead of the end of piece %d: sizes %v", i, sizesOf(got))
		}
		if got := checkPieces(t, text[:end-len(p)+1]); len(got) != i+1 || got[i] != p[:1] {
			t.Errorf("ended behind the first byte of piece %d: sizes %v", i, sizesOf(got))
		}
	}
}

func TestPiecesLimit(t *testing.T) {
	for _, c := range []struct {
		text string
		want int
	}{
		{strings.Repeat(block(4), impl.MaxThing/impl.MinPiece), impl.MaxPieces},
		{uncut(impl.MaxThing, ""), 47},
	} {
		if p := checkPieces(t, c.text); len(p) != c.want || len(c.text) != impl.MaxThing {
			t.Errorf("MaxThing bytes: %d pieces, not %d", len(p), c.want)
		}
		for _, more := range []string{"z", "\x00", c.text} {
			if p := impl.Pieces(c.text + more); len(p) != 0 {
				t.Errorf("%d bytes: %d pieces", len(c.text+more), len(p))
			}
		}
	}
	for seed := range 10 {
		checkPieces(t, drawn(seed, impl.MaxThing, allBytes()))
		checkPieces(t, drawn(seed, impl.MaxThing+1, allBytes()))
		checkPieces(t, drawn(seed, impl.MaxThing-1, allBytes()))
	}
}

// checkEnds holds the pieces of two texts that end alike against each other, and tells how many bytes they share from a common beginning on.
func checkEnds(t *testing.T, a, b string) int {
	t.Helper()
	alike := 0
	for alike < len(a) && alike < len(b) && a[len(a)-1-alike] == b[len(b)-1-alike] {
		alike++
	}
	from := map[int]int{}
	pa, pb := impl.Pieces(a), impl.Pieces(b)
	left := len(a)
	for i, p := range pa {
		from[left] = i
		left -= len(p)
	}
	left = len(b)
	for j, p := range pb {
		if i, ok := from[left]; ok && left <= alike {
			if !slices.Equal(pa[i:], pb[j:]) {
				t.Errorf("%.20q and %.20q, %d bytes left: sizes %v and %v", a, b, left, sizesOf(pa[i:]), sizesOf(pb[j:]))
			}
			return left
		}
		left -= len(p)
	}
	return 0
}

func TestTextsThatEndAlike(t *testing.T) {
	met := 0
	for seed := range 300 {
		alphabet := []string{lowLetters, allBytes(), "abc"}[seed%3]
		end := drawn(seed, 300+seed, alphabet)
		a := drawn(seed+1000, seed%97, alphabet) + end
		b := drawn(seed+2000, seed%61+1, alphabet) + end
		if checkEnds(t, a, b) > 0 {
			met++
		}
		if n := checkEnds(t, a, a); n != len(a) {
			t.Errorf("a text and itself: %d of %d bytes", n, len(a))
		}
	}
	if met < 200 {
		t.Errorf("only %d pairs had a common beginning", met)
	}
}

func TestRestOfText(t *testing.T) {
	for _, text := range someTexts() {
		pieces := impl.Pieces(text)
		rest := text
		for i, p := range pieces {
			if i%7 == 0 && !slices.Equal(impl.Pieces(rest), pieces[i:]) {
				t.Errorf("%.20q: cut anew from piece %d on: sizes %v", text, i, sizesOf(impl.Pieces(rest)))
			}
			rest = rest[len(p):]
		}
	}
}

func checkShared(t *testing.T, a, b string, want int) {
	t.Helper()
	if n := impl.Shared(a, b); n != want {
		t.Errorf("%d bytes %.20q and %d bytes %.20q: %d, not %d", len(a), a, len(b), b, n, want)
	}
}

func TestSharedOfNearlyTheSame(t *testing.T) {
	for seed := range 100 {
		a := drawn(seed, 2000, lowLetters)
		at := 600 + seed*7
		for _, b := range []string{a, a[:at] + "X" + a[at:], a[:at] + a[at+1:], a[:at] + "X" + a[at+1:], "X" + a, a + "X", a[at:], a[:at], a[at:] + a[:at]} {
			checkShared(t, a, b, wantShared(a, b))
			checkShared(t, b, a, wantShared(b, a))
		}
		checkShared(t, a, a, len(a))
		if n := impl.Shared(a, a[:at]+"X"+a[at:]); n < 1000 {
			t.Errorf("a byte more in the middle: %d bytes are shared", n)
		}
		checkShared(t, a, drawn(seed+5000, 2000, "ABCD"), 0)
	}
}

func TestSharedCountsBytesOfTheSecond(t *testing.T) {
	p, q, r := block(11), block(12), block(13)
	for _, c := range []struct {
		a, b string
		want int
	}{
		{p, p + p + p, 24},
		{p + p + p, p, 8},
		{p + q, q + r + q + p, 24},
		{q + r + q + p, p + q, 16},
		{p + q + p, r + r, 0},
		{p + "end", q + "end", 3},
		{"end", p + "end", 3},
		{p + "end", "end", 3},
		{p + "end", "en", 0},
		// A piece of b counts if it is a piece of a, not if it stands anywhere in a.
		{"x" + p[:4], p[:4], 0},
		{p + q, p[1:] + q[:1], 0},
		{strings.Repeat(p, impl.MaxPieces), strings.Repeat(p, impl.MaxPieces), impl.MaxThing},
		{uncut(128, ""), uncut(64, ""), 64},
	} {
		checkShared(t, c.a, c.b, c.want)
		checkShared(t, c.a, c.b, wantShared(c.a, c.b))
	}
}

func TestSharedTakesNothingForGrantedOfSums(t *testing.T) {
	for i, pair := range wholeClashes() {
		checkShared(t, pair[0], pair[1], wantShared(pair[0], pair[1]))
		if i >= 2 {
			continue
		}
		if len(checkPieces(t, pair[0])) != 1 || len(checkPieces(t, pair[1])) != 1 {
			t.Errorf("%q must be two pieces", pair)
		}
		checkShared(t, pair[0], pair[1], 0)
		checkShared(t, block(1)+pair[1], block(1)+pair[0], impl.MinPiece)
	}
}

func TestSharedOfEmptyAndTooLongTexts(t *testing.T) {
	p := block(11)
	long := strings.Repeat(p, impl.MaxPieces) + "z"
	for _, c := range []struct{ a, b string }{{"", ""}, {"", p}, {p, ""}, {long, p}, {p, long}, {long, long}, {long, ""}, {"", long}} {
		checkShared(t, c.a, c.b, 0)
	}
	checkShared(t, long[:impl.MaxThing], p, 8)
	checkShared(t, p, long[:impl.MaxThing], impl.MaxThing)
}

func TestSharedOfAnyBytes(t *testing.T) {
	for seed := range 50 {
		for _, alphabet := range []string{allBytes(), "\x00\xff", "\x00", "\xc3\xa9\xed\xa0\x80"} {
			a := drawn(seed, 400, alphabet)
			b := drawn(seed+1, 100, alphabet) + a[seed:]
			checkShared(t, a, b, wantShared(a, b))
			checkShared(t, a, a, len(a))
		}
	}
	checkShared(t, "\xff", "\xef\xbf\xbd", 0)
	checkShared(t, "a", "a\x00", 0)
}

func TestPiecesLeaveArgumentsAlone(t *testing.T) {
	for _, n := range []int{1, 8, 64, 500, impl.MaxThing, impl.MaxThing + 1} {
		a, b := watch(drawn(1, n, allBytes())), watch(drawn(1, n, allBytes()))
		for _, p := range impl.Pieces(a.text) {
			if shareMemory(p, a.text) {
				t.Errorf("%d bytes: a piece shares memory with the text", n)
			}
		}
		impl.Shared(a.text, b.text)
		impl.Shared(a.text, a.text)
		if a.changed() || b.changed() {
			t.Errorf("%d bytes: an argument was written into", n)
		}
	}
}

func TestPiecesAreNewMemory(t *testing.T) {
	text := drawn(2, 500, lowLetters)
	want := slices.Clone(impl.Pieces(text))
	one, other := impl.Pieces(text), impl.Pieces(text)
	room := one[:cap(one)]
	for i := range room {
		room[i] = "overwritten"
	}
	if !slices.Equal(other, want) || !slices.Equal(impl.Pieces(text), want) {
		t.Error("two answers share memory")
	}
	checkShared(t, text, text, len(text))
}
