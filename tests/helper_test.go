package tests

import (
	"hash/fnv"
	"unsafe"
)

const lowLetters = "abcdefghijklmnopqrstuvwxyz"

// drawn is a text of n bytes of the alphabet, the same one for the same seed.
func drawn(seed, n int, alphabet string) string {
	out := make([]byte, n)
	x := uint64(seed)*2862933555777941757 + 3037000493
	for i := range out {
		x = x*6364136223846793005 + 1442695040888963407
		out[i] = alphabet[(x>>33)%uint64(len(alphabet))]
	}
	return string(out)
}

// allBytes is an alphabet of every byte there is.
func allBytes() string {
	out := make([]byte, 256)
	for i := range out {
		out[i] = byte(i)
	}
	return string(out)
}

// wantSum64 is the library's own sum of this kind.
func wantSum64(text string) uint64 {
	h := fnv.New64a()
	h.Write([]byte(text))
	return h.Sum64()
}

// wholeClashes are pairs of different texts with one sum of 64 bits; the first two have no cut in them.
func wholeClashes() [][2]string {
	return [][2]string{
		{"iAYs735NRZhJ64QN", "jAamS2lV8Zdy41xr"},
		{"`;}F/6J1--Z3:?Zx", "mC!F37G+={RrT<A|"},
		{"8yn0iYCKYHlIj4-BwPqk", "GReLUrM4wMqfg9yzV3KQ"},
	}
}

// shareMemory says whether two texts have a byte of memory in common.
func shareMemory(a, b string) bool {
	if len(a) == 0 || len(b) == 0 {
		return false
	}
	x := uintptr(unsafe.Pointer(unsafe.StringData(a)))
	y := uintptr(unsafe.Pointer(unsafe.StringData(b)))
	return x < y+uintptr(len(b)) && y < x+uintptr(len(a))
}

// watched is a text in memory that can be looked at afterwards, with the bytes behind its end.
type watched struct {
	memory []byte
	before string
	text   string
}

func watch(text string) watched {
	memory := append([]byte(text), "what stands behind"...)
	return watched{memory, string(memory), unsafe.String(&memory[0], len(text))}
}

func (w watched) changed() bool {
	return string(w.memory) != w.before
}
