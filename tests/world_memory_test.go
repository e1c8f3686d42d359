package tests

import (
	"fmt"
	"reflect"
	"slices"
	"strconv"
	"strings"
	"testing"
	"unsafe"

	"loop.example/kilnpass/impl"
)

// roomyWorld is a world whose lists have room behind their ends, with what stands there.
func roomyWorld(w impl.World) (impl.World, func() bool) {
	f, fetchChanged := roomyFetch(w.Fetch)
	changed := []func() bool{fetchChanged}
	stores := append(slices.Clone(w.Stores), impl.Store{Width: 7}, impl.Store{Room: 8})
	for i, s := range w.Stores {
		roomy, storeChanged := roomy(s)
		stores[i] = roomy
		changed = append(changed, storeChanged)
	}
	up := append(slices.Clone(w.Up), true, false)
	flight := append(slices.Clone(w.Flight), impl.Message{From: 7, Sum: "behind"}, impl.Message{To: 8, Text: "that"})
	storesBefore, upBefore, flightBefore := slices.Clone(stores), slices.Clone(up), slices.Clone(flight)
	changed = append(changed, func() bool {
		return !slices.EqualFunc(stores, storesBefore, sameStore) || !slices.Equal(up, upBefore) || !slices.Equal(flight, flightBefore)
	})
	n := len(w.Stores)
	w.Fetch, w.Stores, w.Up, w.Flight = f, stores[:n], up[:n], flight[:len(w.Flight)]
	return w, func() bool { return slices.ContainsFunc(changed, func(c func() bool) bool { return c() }) }
}

// busyWorld is a world with something in each of its lists, and events of each kind for it.
func busyWorld(t *testing.T) (impl.World, []impl.Event) {
	t.Helper()
	f, answers := busy(t)
	stores := []impl.Store{}
	for i := range f.Peers {
		s := holding(t, 8, "text zero", "text two", "text "+strconv.Itoa(i))
		stores = append(stores, withPins(s, "pinned 8", "pinned "+strconv.Itoa(i)))
	}
	w := checkNewWorld(t, f, stores)
	w.Up[3], w.Wasted = false, 2
	w.Flight = append([]impl.Message{{To: 1, Sum: f.Peers[0].Asked}, {To: 4, Sum: f.Name}, {To: 2, Sum: "none of 8"[:8]}}, answers[:6]...)
	if !impl.ValidWorld(w) {
		t.Fatalf("%s", shortWorld(w))
	}
	events := []impl.Event{{Kind: impl.EvTick}, {}, {Kind: 99}}
	for a := -1; a <= len(w.Flight); a++ {
		for _, kind := range []int{impl.EvBring, impl.EvDouble, impl.EvLose, impl.EvFall, impl.EvRise} {
			events = append(events, impl.Event{Kind: kind, A: a})
		}
		events = append(events, impl.Event{Kind: impl.EvDrop, A: a, B: a / 2})
	}
	for _, m := range answers {
		events = append(events, impl.Event{Kind: impl.EvSay, Message: m})
	}
	return w, events
}

func TestWorldsLeaveArgumentsAlone(t *testing.T) {
	right, events := busyWorld(t)
	wrong, full := copyWorld(right), copyWorld(right)
	wrong.Flight[0].From = 9
	full.Flight = slices.Repeat(full.Flight, impl.MaxFlight)[:impl.MaxFlight]
	for what, given := range map[string]impl.World{"valid": right, "not valid": wrong, "full": full} {
		w, changed := roomyWorld(given)
		for _, e := range events {
			sum, text := watch(e.Message.Sum), watch(e.Message.Text)
			e.Message.Sum, e.Message.Text = sum.text, text.text
			impl.Do(w, e)
			if changed() || sum.changed() || text.changed() {
				t.Errorf("%s, %s: an argument was written into", what, shortEvent(e))
			}
		}
		impl.ValidWorld(w)
		impl.NewWorld(w.Fetch, w.Stores)
		for _, rounds := range []int{-1, 0, 1, 2, 30} {
			impl.Calm(w, rounds)
		}
		if changed() || !sameWorld(w, given) {
			t.Errorf("%s: an argument was written into", what)
		}
	}
}

// region is memory that a value reaches: of a text, or of a list with the room behind its end.
type region struct {
	where string
	begin uintptr
	end   uintptr
}

// regionsOf are all regions that a value reaches.
func regionsOf(where string, v reflect.Value) []region {
	out := []region{}
	switch v.Kind() {
	case reflect.String:
		if text := v.String(); text != "" {
			begin := uintptr(unsafe.Pointer(unsafe.StringData(text)))
			out = append(out, region{where, begin, begin + uintptr(len(text))})
		}
	case reflect.Slice:
		if v.Cap() > 0 {
			begin := v.Pointer()
			out = append(out, region{where, begin, begin + uintptr(v.Cap())*v.Type().Elem().Size()})
		}
		for i := range v.Len() {
			out = append(out, regionsOf(where+"["+strconv.Itoa(i)+"]", v.Index(i))...)
		}
	case reflect.Struct:
		for i := range v.NumField() {
			out = append(out, regionsOf(where+"."+v.Type().Field(i).Name, v.Field(i))...)
		}
	}
	return out
}

// checkFresh asks that no two regions of an answer share memory, nor any of it with what was given.
func checkFresh(t *testing.T, what string, answer any, given ...any) {
	t.Helper()
	old := []region{}
	for i, g := range given {
		old = append(old, regionsOf("argument "+strconv.Itoa(i), reflect.ValueOf(g))...)
	}
	for _, r := range regionsOf("answer", reflect.ValueOf(answer)) {
		for _, o := range old {
			if r.begin < o.end && o.begin < r.end {
				t.Errorf("%s: %s and %s share memory", what, r.where, o.where)
			}
		}
		old = append(old, r)
	}
}

func TestWorldsAreNewMemory(t *testing.T) {
	given, events := busyWorld(t)
	w, _ := roomyWorld(given)
	for _, e := range events {
		e.Message.Sum, e.Message.Text = strings.Clone(e.Message.Sum), strings.Clone(e.Message.Text)
		got := impl.Do(w, e)
		checkFresh(t, shortEvent(e), got, w, e)
		checkFresh(t, shortEvent(e)+", once more", impl.Do(w, e), got)
	}
	for _, rounds := range []int{-1, 0, 1, 2, 30} {
		checkFresh(t, fmt.Sprintf("%d rounds", rounds), impl.Calm(w, rounds), w)
	}
	checkFresh(t, "NewWorld", impl.NewWorld(w.Fetch, w.Stores), w.Fetch, w.Stores)
	// Stores that are one and the same list are several ones in the answer.
	one := somePeers(t, 3, 8, "text one", "text two")
	checkFresh(t, "NewWorld of one store", impl.NewWorld(impl.NewFetch(one[0], "the name", 3), one), one)
}

// TestWorldsAnswerTheSameAtEachCall: whatever order a map is gone through in, and whatever was called besides.
func TestWorldsAnswerTheSameAtEachCall(t *testing.T) {
	w, events := busyWorld(t)
	even := copyWorld(w)
	for i := range even.Fetch.Peers {
		even.Fetch.Peers[i] = impl.Peer{Last: 7}
	}
	for _, w := range []impl.World{w, even} {
		calm := wantCalm(w, 9, wantDo)
		begun := wantNewWorld(w.Fetch, w.Stores)
		want := []impl.World{}
		for _, e := range events {
			want = append(want, wantDo(w, e))
		}
		for range 40 {
			for i, e := range events {
				if got := impl.Do(w, e); !sameWorld(got, want[i]) {
					t.Fatalf("%s: %s,\nnot %s", shortEvent(e), shortWorld(got), shortWorld(want[i]))
				}
			}
			if got := impl.Calm(w, 9); !sameWorld(got, calm) {
				t.Fatalf("%s,\nnot %s", shortWorld(got), shortWorld(calm))
			}
			if got := impl.NewWorld(w.Fetch, w.Stores); !sameWorld(got, begun) || !impl.ValidWorld(w) {
				t.Fatalf("%s", shortWorld(got))
			}
		}
	}
}
