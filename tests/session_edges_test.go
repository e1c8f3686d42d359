package tests

import (
	"fmt"
	"strings"
	"testing"

	"loop.example/kilnpass/impl"
)

// bads are lines that are answered `bad`.
func bads(lines ...string) [][2]string {
	out := [][2]string{}
	for _, line := range lines {
		out = append(out, [2]string{line, "bad"})
	}
	return out
}

// begun is a session with things 0 and 1, both with peers 1 and 2, that are being fetched.
const begun = "thing 0 the other one\nthing 1 * 20 abcdefghij\ngive 1 0\ngive 1 1\ngive 2 1\ngive 2 0\nfetch 1 4000\n"

func TestLastPieceOfSession(t *testing.T) {
	for text, want := range map[string]string{
		"":                            "",
		"\n":                          "bad\n",
		"\n\n":                        "bad\nbad\n",
		" ":                           "bad\n",
		" \n":                         "bad\n",
		"differ 1 1":                  "notes 1 only 0 0\n",
		"differ 1 1\n":                "notes 1 only 0 0\n",
		"differ 1 1\n\n":              "notes 1 only 0 0\nbad\n",
		"\ndiffer 1 1":                "bad\nnotes 1 only 0 0\n",
		"differ 1 1\n\ndiffer 1 1":    "notes 1 only 0 0\nbad\nnotes 1 only 0 0\n",
		"differ 1 1\ndiffer 1 1\n ":   "notes 1 only 0 0\nnotes 1 only 0 0\nbad\n",
		"differ 1 1\r\ndiffer 1 1\r":  "bad\nbad\n",
		"thing 1 a\nthing 2 b\nzap":   nameDigits("a") + "\n" + nameDigits("b") + "\nbad\n",
		"thing 1 a\nthing 2 b\nzap\n": nameDigits("a") + "\n" + nameDigits("b") + "\nbad\n",
	} {
		if got := impl.Session(text); got != want {
			t.Errorf("%q: %q, not %q", text, got, want)
		}
		checkSession(t, text)
	}
}

func TestNumbersOfSession(t *testing.T) {
	answered(t, begun, [][2]string{
		{"bring 0", "0"}, {"bring 9", "0"}, {"bring 10", "0"}, {"bring 999", "0"}, {"bring 1000", "0"}, {"bring 9999", "0"},
		{"fetch 1 0", "ok"}, {"fetch 1 9999", "ok"}, {"fetch 0 1000", "ok"}, {"calm 9999", "no"}, {"calm 0", "0"},
	})
	answered(t, begun, bads(
		"bring 00", "bring 01", "bring 0000", "bring 09999", "bring 10000", "bring 99999", "bring 00001", "bring 4294967296",
		"bring 18446744073709551616", "bring -1", "bring -0", "bring +1", "bring 1.0", "bring 1e1", "bring 0x1", "bring 1_0", "bring x",
		"bring 1x", "bring x1", "bring \xd9\xa1", "bring 1\x00", "bring 1\r", "bring \t1", "bring 1,2",
		"fetch 1 10000", "fetch 1 04000", "fetch 01 4000", "calm 10000", "calm 00", "calm 05", "pieces 01", "pieces 00", "thing 01 x",
		"thing 00 x", "give 01 1", "give 1 01", "shared 1 01", "differ 1 02", "lie 01", "fall 01", "rise 01", "double 00", "lose 00",
	))
}

func TestSpacesOfSession(t *testing.T) {
	lines := []string{"pieces 1", "shared 1 1", "give 1 1", "fetch 1 10", "lie 1", "tick", "bring 0", "double 0", "lose 0", "fall 1", "rise 1", "calm 1", "done", "lies", "differ 1 2"}
	for _, line := range lines {
		words := strings.Split(line, " ")
		got := checkSession(t, begun+line)
		if got[len(got)-1] == "bad" {
			t.Errorf("%q is bad", line)
		}
		answered(t, begun, bads(" "+line, line+" ", line+"  ", "  "+line, line+" 1", line+" x", line+"\t", "\t"+line, line+"\x00"))
		answered(t, begun, bads(strings.ToUpper(line), words[0]+"z", words[0][1:], words[0]+words[0]))
		if len(words) > 1 {
			answered(t, begun, bads(strings.Join(words, "  "), strings.Join(words, ""), strings.Join(words, "\t"), words[0], words[0]+" "))
		}
		if len(words) > 2 {
			answered(t, begun, bads(words[0]+"  "+words[1]+" "+words[2], words[0]+" "+words[1]+"  "+words[2], words[0]+" "+words[1], words[0]+" "+words[1]+" ", words[0]+" "+words[1]+words[2]+" "))
		}
	}
	answered(t, begun, bads("", " ", "  ", "zap", "1", "0 1", "* 3 x", "Thing 1 x", "thing", "things 1 x", "drop 1 0", "say 1", "get 1", "put x", "pin 1", "save 1 1", "load 1", "bad", "ok", "size 0"))
}

// TestThingsAsTheyAre: Q is all that stands behind one space.
func TestThingsAsTheyAre(t *testing.T) {
	for _, text := range []string{
		"x", " ", "  ", " x", "x ", " x ", "  x  ", "two words", "a  b", "1", "1 2 3", "\t", "\r", "\x00", "\xff\xfe", "thing 1 x", "*",
		"* ", "*  ", "**", "* 3", "* x", "* x y", "* 3x y", "*3 x", "*  3 x", " * 3 x", "** 3 x", "* 03 x", "* 00 x", "* 000 x", "* 0300 x",
		"* 301 x", "* 301 ", "* 999 x", "* 1000 x", "* 9999 x", "* 10000 x", "* 00000 x", "* 99999999999999999999 x", "* -1 x", "* +1 x",
		"* \t3 x", "* 3\tx", "* 3\x00x", "*\t3 x", "x * 3 x", "3 x", "* * 3 x", "3 * x", "* 3. x",
	} {
		answers(t, [][2]string{
			{"thing 7 " + text, nameDigits(text)},
			{"pieces 7", fmt.Sprint(len(text))},
			{"give 2 7", "code 0"},
			{"fetch 7 100", "ok"},
			{"calm 9", "0"},
			{"done", fmt.Sprint("done ", len(text))},
		})
	}
	answered(t, "", bads("thing", "thing ", "thing 1", "thing 1 ", "thing  1 x", " thing 1 x", "thing x", "thing x y", "thing -1 x", "thing 1\tx", "thing1 x", "thing 10 x", "thing 9999 x", "thing 10000 x", "thing 01 x"))
}

// TestThingsByTimes: what stands behind `* N ` so many times, be it nothing.
func TestThingsByTimes(t *testing.T) {
	for _, row := range []struct {
		line  string
		times int
		part  string
	}{
		{"* 3 ab", 3, "ab"}, {"* 3  ab", 3, " ab"}, {"* 3   ab", 3, "  ab"}, {"* 3 ab ", 3, "ab "}, {"* 3 a b", 3, "a b"},
		{"* 3 ", 3, ""}, {"* 3  ", 3, " "}, {"* 0 ab", 0, ""}, {"* 0 ", 0, ""}, {"* 1 ab", 1, "ab"}, {"* 1 ", 1, ""},
		{"* 300 ab", 300, "ab"}, {"* 300 ", 300, ""}, {"* 299 ab", 299, "ab"}, {"* 10 * 2 ab", 10, "* 2 ab"}, {"* 1 * 3 ", 1, "* 3 "},
		{"* 2 *", 2, "*"}, {"* 2 3", 2, "3"}, {"* 9 \xff\x00", 9, "\xff\x00"}, {"* 12 \r", 12, "\r"},
		{"* 300 0123456789", 300, "0123456789"}, {"* 0 " + strings.Repeat("x", 5000), 0, ""}, {"* 1 " + strings.Repeat("x", 3000), 1, strings.Repeat("x", 3000)},
	} {
		text := strings.Repeat(row.part, row.times)
		size := "-"
		if text != "" {
			size = strings.Trim(fmt.Sprint(sizesOf(wantPieces(text))), "[]")
		}
		answers(t, [][2]string{
			{"thing 4 " + row.line, nameDigits(text)},
			{"pieces 4", size},
			{"shared 4 4", fmt.Sprint(len(text))},
			{"give 3 4", "code 0"},
			{"fetch 4 9999", "ok"},
			{"calm 200", "0"},
			{"done", fmt.Sprint("done ", len(text))},
		})
	}
}

func TestThingsOfMaxThing(t *testing.T) {
	most := drawn(5, 3000, lowLetters)
	answered(t, "", [][2]string{
		{"thing 1 " + most, nameDigits(most)},
		{"thing 1 " + most + "x", "no"},
		{"thing 1 " + most + " ", "no"},
		{"thing 1 " + strings.Repeat("x", 19000), "no"},
		{"thing 1 * 300 0123456789", nameDigits(strings.Repeat("0123456789", 300))},
		{"thing 1 * 300 0123456789a", "no"},
		{"thing 1 * 300 " + most, "no"},
		{"thing 1 * 2 " + most[:1500], nameDigits(strings.Repeat(most[:1500], 2))},
		{"thing 1 * 2 " + most[:1501], "no"},
		{"thing 1 * 1 " + most + "x", "no"},
		{"thing 1 * 0 " + most + "x", nameDigits("")},
		{"thing 1 * 301 " + most[:2994], nameDigits("* 301 " + most[:2994])},
		{"thing 1 * 301 " + most[:2995], "no"},
		{"thing 10 " + most + "x", "bad"},
	})
	// A thing that is too long is refused: what was there ahead of it, or nothing, stays.
	answers(t, [][2]string{
		{"thing 1 " + most + "x", "no"}, {"pieces 1", "bad"}, {"shared 1 1", "bad"}, {"give 1 1", "bad"}, {"fetch 1 100", "bad"}, {"tick", "bad"},
		{"thing 1 short", nameDigits("short")}, {"thing 1 * 300 0123456789a", "no"}, {"pieces 1", "5"}, {"give 1 1", "code 0"},
		{"fetch 1 100", "ok"}, {"calm 9", "0"}, {"done", "done 5"},
		{"thing 1 " + most, nameDigits(most)}, {"shared 1 1", "3000"}, {"give 2 1", "code 0"},
		{"fetch 1 9999", "ok"}, {"calm 250", "0"}, {"done", "done 3000"},
	})
}

func TestThingsOfSession(t *testing.T) {
	for n := range 10 {
		ahead := fmt.Sprintf("thing %d its text\n", n)
		for other := range 12 {
			want := "bad"
			if other == n {
				want = "8"
			}
			answered(t, ahead, [][2]string{{fmt.Sprint("pieces ", other), want}})
			if other != n {
				answered(t, ahead, bads(fmt.Sprint("give 1 ", other), fmt.Sprintf("fetch %d 9", other), fmt.Sprintf("shared %d %d", n, other), fmt.Sprintf("shared %d %d", other, n), fmt.Sprintf("shared %d %d", other, other)))
			}
		}
		answered(t, ahead, [][2]string{{fmt.Sprint("give 1 ", n), "code 0"}, {fmt.Sprintf("fetch %d 9", n), "ok"}, {fmt.Sprintf("shared %d %d", n, n), "8"}})
	}
	answered(t, "", bads("thing 10 x", "thing 11 x", "thing 99 x", "pieces 10", "give 1 10", "fetch 10 5"))
	// A thing that is told anew is the new one; what was given of the old one stays with the peers.
	one, two := block(1)+block(2), block(2)+block(3)
	answers(t, [][2]string{
		{"thing 0 " + one, nameDigits(one)}, {"thing 9 " + two, nameDigits(two)}, {"shared 0 9", "8"}, {"give 1 0", "code 0"},
		{"thing 0 " + two, nameDigits(two)}, {"shared 0 9", "16"}, {"pieces 0", "8 8"}, {"give 2 0", "code 0"},
		{"differ 1 2", "notes 2 only 2 2"},
		{"fetch 0 100", "ok"}, {"fall 2", "0"}, {"calm 20", "0"}, {"done", "lacks 1"},
		{"thing 0 " + one, nameDigits(one)}, {"done", "lacks 1"},
		{"fetch 0 100", "ok"}, {"calm 20", "0"}, {"done", "done 16"},
	})
}

// TestSharedOfSession: the bytes of the second in pieces of the first.
func TestSharedOfSession(t *testing.T) {
	p, q := block(1), block(2)
	answers(t, [][2]string{
		{"thing 1 " + p, nameDigits(p)}, {"thing 2 " + p + p + p + q, nameDigits(p + p + p + q)}, {"thing 3 * 0 x", nameDigits("")},
		{"shared 1 2", "24"}, {"shared 2 1", "8"}, {"shared 2 2", "32"}, {"shared 1 3", "0"}, {"shared 3 1", "0"}, {"shared 3 3", "0"},
		{"pieces 2", "8 8 8 8"}, {"pieces 3", "-"},
	})
}

func TestPeersOfSession(t *testing.T) {
	answered(t, begun, bads("give 0 1", "give 4 1", "give 9999 1", "lie 0", "lie 4", "fall 0", "fall 4", "rise 0", "rise 4", "differ 0 1", "differ 1 0", "differ 4 1", "differ 1 4", "differ 0 0", "differ 4 4", "lie 9999"))
	for peer := 1; peer <= 3; peer++ {
		answered(t, begun, [][2]string{
			{fmt.Sprintf("give %d 1", peer), "code 0"}, {fmt.Sprint("lie ", peer), "1"}, {fmt.Sprint("fall ", peer), "0"},
			{fmt.Sprint("rise ", peer), "0"}, {fmt.Sprintf("differ %d %d", peer, peer), "notes 1 only 0 0"},
		})
		// The thing is with this peer alone, and fetched from it, as long as it is up.
		got := checkSession(t, fmt.Sprintf("thing 0 x\ngive %d 0\nfetch 0 100\nfall %d\ncalm 40\ndone\nrise %d\ncalm 40\ndone", peer, peer, peer))
		if got[5] != "lacks 1" || got[8] != "done 1" {
			t.Errorf("peer %d: %q", peer, got)
		}
		for other := 1; other <= 3; other++ {
			want := "done 1"
			if other == peer {
				want = "lacks 1"
			}
			answered(t, fmt.Sprintf("thing 0 x\ngive %d 0\nfetch 0 100\nfall %d\ncalm 40\n", peer, other), [][2]string{{"done", want}})
		}
	}
}

// TestCodesOfGive: a thing that is not saved leaves nothing behind it.
func TestCodesOfGive(t *testing.T) {
	lines := [][2]string{}
	for i := range 11 {
		text := fmt.Sprint("number ", i)
		code := "code 0"
		if i == 10 {
			code = "code 2"
		}
		lines = append(lines, [2]string{"thing 3 " + text, nameDigits(text)}, [2]string{"give 2 3", code})
	}
	lines = append(lines, [2]string{"differ 2 1", "notes 2 only 20 0"}, [2]string{"give 1 3", "code 0"}, [2]string{"differ 2 1", "notes 2 only 20 2"}, [2]string{"give 2 3", "code 2"}, [2]string{"thing 3 number 0", nameDigits("number 0")}, [2]string{"give 2 3", "code 0"})
	answers(t, lines)

	// A thing that is there already needs no room, be the store as full as it may.
	great := greatThing()[:239*8]
	answers(t, [][2]string{
		{"thing 1 " + great, nameDigits(great)}, {"thing 2 " + great + "x", nameDigits(great + "x")},
		{"give 1 2", "code 3"}, {"differ 1 2", "notes 1 only 0 0"},
		{"give 1 1", "code 0"}, {"differ 1 2", "notes 2 only 240 0"}, {"differ 2 1", "notes 2 only 0 240"}, {"differ 1 1", "notes 1 only 0 0"},
		{"thing 4 x", nameDigits("x")}, {"give 1 4", "code 3"}, {"give 1 2", "code 3"}, {"differ 1 2", "notes 2 only 240 0"}, {"give 1 1", "code 0"},
		{"fetch 1 5985", "ok"}, {"calm 300", "0"}, {"done", fmt.Sprint("done ", len(great))},
		{"fetch 1 5984", "ok"}, {"calm 300", "0"}, {"done", "lacks 1 full"},
	})
}

// TestRoomOfPeers: just what has room in 6000 bytes is given.
func TestRoomOfPeers(t *testing.T) {
	great := greatThing()[:237*8]
	for size := 20; size <= 60; size++ {
		text, code := uncut(size, ""), "code 0"
		if wholeSize(great, 8)+wholeSize(text, 8) > 6000 {
			code = "code 3"
		}
		if (size <= 40) != (code == "code 0") {
			t.Fatalf("size %d: %s", size, code)
		}
		answered(t, fmt.Sprintf("thing 1 %s\nthing 2 %s\ngive 3 1\n", great, text), [][2]string{{"give 3 2", code}})
		answered(t, fmt.Sprintf("thing 1 %s\nthing 2 %s\ngive 3 2\n", great, text), [][2]string{{"give 3 1", code}})
	}
}

func TestCalmOfSession(t *testing.T) {
	ahead := begun + "tick\ndouble 0\ndouble 0\n"
	answered(t, ahead, [][2]string{{"calm 0", "3"}, {"calm 1", "0"}, {"calm 300", "0"}, {"calm 301", "no"}, {"calm 1000", "no"}, {"calm 9999", "no"}, {"calm 10000", "bad"}})
	// Where it is not done, nothing is done of it.
	answers(t, [][2]string{
		{"calm 301", "bad"},
		{"thing 1 x", nameDigits("x")}, {"give 1 1", "code 0"}, {"fetch 1 99", "ok"},
		{"calm 301", "no"}, {"done", "lacks 1"}, {"calm 0", "0"}, {"done", "lacks 1"}, {"calm 3", "0"}, {"done", "lacks 1"}, {"calm 1", "0"}, {"done", "done 1"},
	})
	// Each round is one: one for the list, and one for each piece, since the peers without it say so of each piece, too.
	text := greatThing()[:230*8]
	answers(t, [][2]string{
		{"thing 1 " + text, nameDigits(text)}, {"give 1 1", "code 0"},
		{"fetch 1 9999", "ok"}, {"calm 230", "0"}, {"done", "lacks 1"}, {"calm 1", "0"}, {"done", "done 1840"},
		{"fetch 1 9999", "ok"}, {"calm 300", "0"}, {"done", "done 1840"},
	})
	// And 300 are 300: at the first tick behind them nobody waits any more who was asked at the last of them.
	answers(t, [][2]string{
		{"thing 1 x", nameDigits("x")}, {"fetch 1 9999", "ok"}, {"fall 1", "0"}, {"fall 2", "0"}, {"fall 3", "0"},
		{"calm 300", "0"}, {"tick", "1"}, {"calm 299", "0"}, {"tick", "1"}, {"calm 298", "0"}, {"tick", "0"},
	})
}

func TestLiesOfSession(t *testing.T) {
	// Of a peer that is asked: it is a lie, three times at most.
	answers(t, [][2]string{
		{"thing 1 * 20 abcdefghij", "8e9d9d171c862548"}, {"give 1 1", "code 0"}, {"give 2 1", "code 0"},
		{"fetch 1 4000", "ok"}, {"lies", "0 0 0 0"},
		{"tick", "1"}, {"lie 1", "2"}, {"bring 1", "1"}, {"lies", "1 0 0 1"}, {"lose 0", "0"},
		{"tick", "1"}, {"lie 2", "2"}, {"bring 1", "1"}, {"lies", "1 1 0 2"}, {"lose 0", "0"},
		{"tick", "1"}, {"lie 3", "2"}, {"bring 1", "1"}, {"lies", "1 1 1 3"}, {"lose 0", "0"},
		{"tick", "1"}, {"lie 1", "2"}, {"bring 1", "1"}, {"lies", "2 1 1 4"}, {"lose 0", "0"},
		// Of peers that are not asked: what they say is about nothing, and nobody hears it.
		{"lie 1", "1"}, {"lie 2", "2"}, {"lie 3", "3"}, {"bring 0", "2"}, {"bring 0", "1"}, {"bring 0", "0"}, {"lies", "2 1 1 4"}, {"bring 0", "0"},
		// What was said before it is asked is not about what it is asked for then.
		{"lie 2", "1"}, {"tick", "2"}, {"bring 0", "1"}, {"lies", "2 1 1 4"}, {"calm 9", "0"}, {"done", "done 200"}, {"lies", "2 1 1 4"},
		{"lie 2", "1"}, {"calm 1", "0"}, {"lies", "2 1 1 4"},
		{"fetch 1 4000", "ok"}, {"lies", "0 0 0 0"},
	})
	// Of one that is down: it still says it. Who lied three times is asked no more.
	answers(t, [][2]string{
		{"thing 1 x", nameDigits("x")}, {"give 1 1", "code 0"}, {"fetch 1 50", "ok"}, {"fall 1", "0"}, {"fall 2", "0"}, {"fall 3", "0"},
		{"tick", "1"}, {"lie 1", "2"}, {"bring 1", "1"}, {"lies", "1 0 0 1"},
		{"calm 5", "0"}, {"lie 1", "1"}, {"calm 3", "0"}, {"lies", "1 0 0 1"},
	})
	answers(t, threeLies())
}

// threeLies is a session in which each peer lies until it is asked no more.
func threeLies() [][2]string {
	lines := [][2]string{{"thing 1 x", nameDigits("x")}, {"give 1 1", "code 0"}, {"give 2 1", "code 0"}, {"give 3 1", "code 0"}, {"fetch 1 50", "ok"}}
	lies := [3]int{}
	for i := range 9 {
		lies[i%3]++
		lines = append(lines, [2]string{"tick", "1"}, [2]string{"lose 0", "0"}, [2]string{fmt.Sprint("lie ", i%3+1), "1"}, [2]string{"bring 0", "0"}, [2]string{"lies", fmt.Sprint(lies[0], lies[1], lies[2], i+1)})
	}
	return append(lines, [2]string{"tick", "0"}, [2]string{"calm 300", "0"}, [2]string{"done", "lacks 1"}, [2]string{"lie 1", "1"}, [2]string{"bring 0", "0"}, [2]string{"lies", "3 3 3 9"})
}

// TestLieThatIsTrue: where the piece that is asked for is `lie`, the peer tells the truth.
func TestLieThatIsTrue(t *testing.T) {
	answers(t, [][2]string{
		{"thing 1 lie", nameDigits("lie")}, {"give 1 1", "code 0"}, {"fetch 1 50", "ok"},
		{"tick", "1"}, {"lie 1", "2"}, {"bring 1", "1"}, {"lies", "1 0 0 1"}, {"lose 0", "0"},
		{"calm 3", "0"}, {"done", "lacks 1"},
		{"tick", "1"}, {"lie 2", "2"}, {"done", "lacks 1"}, {"bring 1", "1"}, {"lies", "1 0 0 1"}, {"done", "done 3"},
		{"bring 0", "1"}, {"bring 0", "0"}, {"lies", "1 0 0 1"}, {"done", "done 3"},
	})
}

func TestEventsOfSession(t *testing.T) {
	answers(t, [][2]string{
		{"thing 1 x", nameDigits("x")}, {"give 2 1", "code 0"}, {"fetch 1 50", "ok"},
		{"bring 0", "0"}, {"double 0", "0"}, {"lose 0", "0"}, {"lose 9999", "0"},
		{"tick", "1"}, {"double 0", "2"}, {"double 1", "3"}, {"double 3", "3"}, {"lose 3", "3"}, {"bring 3", "3"}, {"lose 2", "2"},
		{"bring 0", "2"}, {"double 1", "3"}, {"bring 0", "3"}, {"lose 0", "2"}, {"bring 0", "1"}, {"done", "lacks 1"},
		{"tick", "2"}, {"bring 1", "2"}, {"bring 1", "1"}, {"lose 0", "0"}, {"done", "lacks 1"}, {"lies", "0 0 0 0"},
		// Who is down does not answer; to fall twice is to fall once.
		{"fall 3", "0"}, {"fall 3", "0"}, {"tick", "1"}, {"bring 0", "0"}, {"rise 3", "0"}, {"rise 3", "0"}, {"rise 1", "0"},
		{"calm 30", "0"}, {"done", "done 1"},
	})
}

// TestFlightOfSession: what has no room in flight is lost.
func TestFlightOfSession(t *testing.T) {
	lines := [][2]string{{"thing 1 x", nameDigits("x")}, {"give 1 1", "code 0"}, {"fetch 1 50", "ok"}, {"tick", "1"}}
	for i := range 310 {
		lines = append(lines, [2]string{"double 0", fmt.Sprint(min(i+2, impl.MaxFlight))})
	}
	lines = append(lines, [2]string{"lie 1", "300"}, [2]string{"lose 5", "299"}, [2]string{"lie 2", "300"}, [2]string{"bring 299", "299"}, [2]string{"lies", "0 0 0 0"}, [2]string{"calm 1", "0"}, [2]string{"calm 9", "0"}, [2]string{"done", "done 1"})
	answers(t, lines)
}

func TestDoneOfSession(t *testing.T) {
	text := block(1) + block(2) + block(1) + block(3) + "the end"
	name, whole := nameDigits(text), wholeSize(text, 8)
	ahead := "thing 1 " + text + "\ngive 1 1\ngive 2 1\ngive 3 1\n"
	form := whole - 3*8 - 7
	for room, want := range map[int]string{
		0: "lacks 1 full", form - 1: "lacks 1 full", form: "lacks 4 full", form + 7: "lacks 4 full", form + 8: "lacks 3 full", form + 16: "lacks 2 full", whole - 1: "lacks 1 full", whole: "done 39", whole + 1: "done 39", 9999: "done 39",
	} {
		answered(t, ahead+fmt.Sprintf("fetch 1 %d\ncalm 30\n", room), [][2]string{{"done", want}, {"lies", "0 0 0 0"}})
	}
	answers(t, [][2]string{
		{"thing 1 " + text, name}, {"done", "bad"}, {"fetch 1 9999", "ok"}, {"done", "lacks 1"}, {"calm 300", "0"}, {"done", "lacks 1"},
		{"give 2 1", "code 0"}, {"fetch 1 9999", "ok"}, {"calm 2", "0"}, {"done", "lacks 4"}, {"calm 1", "0"}, {"done", "lacks 3"}, {"calm 50", "0"}, {"done", "done 39"},
	})
	// The empty thing is there with its list.
	answers(t, [][2]string{
		{"thing 0 * 0 x", nameDigits("")}, {"fetch 0 7", "ok"}, {"done", "lacks 1"}, {"give 3 0", "code 0"}, {"calm 3", "0"}, {"done", "done 0"},
		{"fetch 0 6", "ok"}, {"calm 3", "0"}, {"done", "lacks 1 full"},
	})
}

// cutClash are two texts with one sum of 64 bits: the first is a piece wherever it stands, the second only at an end.
func cutClash(t *testing.T) (string, string) {
	t.Helper()
	for _, pair := range wholeClashes()[:2] {
		for i := range 26 * 26 {
			z := lowLetters[i/26:i/26+1] + lowLetters[i%26:i%26+1]
			x, y := pair[0]+z, pair[1]+z
			if cutsHere(x) && len(wantPieces(x)) == 1 && !cutsHere(y) && len(wantPieces(y)) == 1 {
				return x, y
			}
		}
	}
	t.Fatal("no such texts")
	return "", ""
}

// TestSessionOfOneSum: sums are not taken for granted; what is put together of a peer's other text is not the thing.
func TestSessionOfOneSum(t *testing.T) {
	x, y := cutClash(t)
	text := x + "the end"
	answers(t, [][2]string{
		{"thing 1 " + text, nameDigits(text)}, {"thing 2 " + y, nameDigits(y)},
		{"give 1 1", "code 0"}, {"give 2 2", "code 0"}, {"give 1 2", "code 2"}, {"differ 1 2", "notes 2 only 2 1"},
		{"fetch 1 9999", "ok"}, {"calm 30", "0"}, {"done", "lacks 0"}, {"lies", "0 0 0 0"},
		{"fetch 1 9999", "ok"}, {"fall 2", "0"}, {"calm 30", "0"}, {"done", fmt.Sprint("done ", len(text))},
	})
	for _, pair := range wholeClashes()[:2] {
		answers(t, [][2]string{
			{"thing 1 " + pair[0], nameDigits(pair[0])}, {"thing 2 " + pair[1], nameDigits(pair[0])}, {"shared 1 2", "0"},
			{"give 1 1", "code 0"}, {"give 1 2", "code 2"}, {"give 2 2", "code 0"}, {"differ 1 2", "notes 1 only 0 0"},
			{"fetch 1 100", "ok"}, {"calm 30", "0"}, {"done", "done 16"},
		})
	}
}

func TestDifferOfSession(t *testing.T) {
	one, two := block(1)+block(2)+"!", block(2)+block(3)+"?"
	answers(t, [][2]string{
		{"differ 1 1", "notes 1 only 0 0"}, {"differ 1 3", "notes 1 only 0 0"},
		{"thing 1 " + one, nameDigits(one)}, {"thing 2 " + two, nameDigits(two)},
		{"give 1 1", "code 0"}, {"differ 1 2", "notes 2 only 4 0"}, {"differ 2 1", "notes 2 only 0 4"}, {"differ 1 1", "notes 1 only 0 0"},
		{"give 2 2", "code 0"}, {"differ 1 2", "notes 2 only 3 3"}, {"differ 3 1", "notes 2 only 0 4"}, {"differ 2 3", "notes 2 only 4 0"},
		{"give 3 1", "code 0"}, {"differ 1 3", "notes 1 only 0 0"}, {"differ 3 2", "notes 2 only 3 3"},
		{"fetch 2 999", "ok"}, {"differ 1 2", "notes 2 only 3 3"}, {"calm 50", "0"}, {"done", "done 17"}, {"differ 1 2", "notes 2 only 3 3"}, {"differ 2 2", "notes 1 only 0 0"},
		{"give 1 2", "code 0"}, {"differ 1 2", "notes 2 only 3 0"}, {"give 2 1", "code 0"}, {"differ 1 2", "notes 1 only 0 0"}, {"differ 2 3", "notes 2 only 3 0"},
		{"fetch 1 999", "ok"}, {"differ 2 3", "notes 2 only 3 0"},
	})
}

// TestSecondFetch: the world is new, and the peers' stores are those of the old one.
func TestSecondFetch(t *testing.T) {
	text := block(4) + "and more"
	answers(t, [][2]string{
		{"thing 1 " + text, nameDigits(text)}, {"thing 2 other", nameDigits("other")}, {"fetch 1 999", "ok"},
		{"give 1 1", "code 0"}, {"give 1 2", "code 0"},
		{"tick", "1"}, {"lie 1", "2"}, {"bring 1", "1"}, {"fall 1", "1"}, {"lies", "1 0 0 1"},
		{"fetch 1 20", "ok"}, {"lies", "0 0 0 0"}, {"bring 0", "0"}, {"done", "lacks 1"}, {"calm 5", "0"}, {"done", "lacks 1 full"},
		{"fetch 3 20", "bad"}, {"done", "lacks 1 full"}, {"fetch 1 x", "bad"}, {"done", "lacks 1 full"},
		{"fetch 1 999", "ok"}, {"done", "lacks 1"}, {"calm 20", "0"}, {"done", "done 16"},
		{"fetch 2 999", "ok"}, {"calm 20", "0"}, {"done", "done 5"},
		{"give 3 1", "code 0"}, {"fetch 1 999", "ok"}, {"fall 1", "0"}, {"calm 40", "0"}, {"done", "done 16"},
		{"differ 1 3", "notes 2 only 2 0"},
	})
}

// TestGiveBehindFetch: what is given then is with the peer when it is asked.
func TestGiveBehindFetch(t *testing.T) {
	answers(t, [][2]string{
		{"thing 1 x", nameDigits("x")}, {"fetch 1 999", "ok"}, {"tick", "1"}, {"give 1 1", "code 0"}, {"bring 0", "1"}, {"bring 0", "0"}, {"done", "lacks 1"},
		{"calm 20", "0"}, {"done", "done 1"}, {"lies", "0 0 0 0"},
		{"fetch 1 999", "ok"}, {"tick", "1"}, {"lie 1", "2"}, {"give 2 1", "code 0"}, {"give 3 1", "code 0"}, {"lies", "0 0 0 0"}, {"bring 1", "1"}, {"lies", "1 0 0 1"}, {"calm 9", "0"}, {"done", "done 1"},
	})
}

func TestSessionsOfLimits(t *testing.T) {
	full := strings.Repeat(strings.Repeat("x", 99)+"\n", 200)
	for what, row := range map[string]struct {
		text string
		want string
	}{
		"MaxSession bytes":                        {full, strings.Repeat("bad\n", 200)},
		"MaxSession bytes, no newline":            {full[:19999] + "x", strings.Repeat("bad\n", 200)},
		"one byte more":                           {full + "x", "too long\n"},
		"one newline more":                        {full + "\n", "too long\n"},
		"one byte more in the last line":          {full[:19999] + "x\n", "too long\n"},
		"a line of MaxSession bytes":              {strings.Repeat("x", 20000), "bad\n"},
		"and one more":                            {strings.Repeat("x", 20001), "too long\n"},
		"a line of all but a newline":             {strings.Repeat("x", 19999) + "\n", "bad\n"},
		"a line of MaxSession bytes, and newline": {strings.Repeat("x", 20000) + "\n", "too long\n"},
		"a thing in MaxSession bytes":             {"thing 1 " + strings.Repeat("x", 19992), "no\n"},
		"a thing in one byte more":                {"thing 1 " + strings.Repeat("x", 19993), "too long\n"},
		"MaxLines lines":                          {strings.Repeat("x\n", 400), strings.Repeat("bad\n", 400)},
		"MaxLines lines, no newline":              {strings.Repeat("x\n", 399) + "x", strings.Repeat("bad\n", 400)},
		"one line more":                           {strings.Repeat("x\n", 401), "too long\n"},
		"one line more, no newline":               {strings.Repeat("x\n", 400) + "x", "too long\n"},
		"one line of no byte more":                {strings.Repeat("x\n", 400) + "\n", "too long\n"},
		"MaxLines lines of no byte":               {strings.Repeat("\n", 400), strings.Repeat("bad\n", 400)},
		"and one more of these":                   {strings.Repeat("\n", 401), "too long\n"},
		"all but one of these":                    {strings.Repeat("\n", 399), strings.Repeat("bad\n", 399)},
		"both limits met":                         {strings.Repeat(strings.Repeat("x", 49)+"\n", 400), strings.Repeat("bad\n", 400)},
		"both limits passed":                      {strings.Repeat(strings.Repeat("x", 49)+"\n", 401), "too long\n"},
		"many lines that do something":            {begun + strings.Repeat("tick\n", 394), "too long\n"},
		"a great text":                            {strings.Repeat("tick\n", 1000000), "too long\n"},
	} {
		if got := impl.Session(row.text); got != row.want {
			t.Errorf("%s: %.60q, not %.60q", what, got, row.want)
		}
		if got := wantSession(row.text); got != row.want {
			t.Errorf("%s, by the second writing: %.60q, not %.60q", what, got, row.want)
		}
	}
	checkFirstLines(t, begun+strings.Repeat("tick\nbring 0\nlies\n", 131))
}
