package impl

import (
	"iter"
	"strings"
)

// Limits of things and pieces.
const (
	MaxThing  = 3000
	MinPiece  = 8
	MaxPiece  = 64
	MaxPieces = 375
)

// cutDivisor divides the sum of the last bytes of a piece that ends by its own bytes.
const cutDivisor = 16

// ring holds the last MinPiece bytes that were added to it.
type ring struct {
	bytes  [MinPiece]byte
	oldest int
}

// Pieces cuts a text into pieces.
func Pieces(text string) []string {
	var pieces []string
	for piece := range eachPiece(text) {
		pieces = append(pieces, strings.Clone(piece))
	}
	return pieces
}

// Shared says how much of a text lies in pieces of another one.
func Shared(a string, b string) int {
	// The pieces themselves are the keys, not their sums: two different pieces may have one sum.
	ofA := map[string]struct{}{}
	for piece := range eachPiece(a) {
		ofA[piece] = struct{}{}
	}
	size := 0
	for piece := range eachPiece(b) {
		if _, shared := ofA[piece]; shared {
			size += len(piece)
		}
	}
	return size
}

// eachPiece gives the pieces of a text in order; they share its memory.
func eachPiece(text string) iter.Seq[string] {
	return func(yield func(string) bool) {
		if len(text) > MaxThing {
			return
		}
		var last ring
		begin := 0
		for i := 0; i < len(text); i++ {
			last.add(text[i])
			end := i + 1
			if end < len(text) && !isCut(end-begin, &last) {
				continue
			}
			if !yield(text[begin:end]) {
				return
			}
			begin = end
		}
	}
}

// isCut says whether a piece of this size, with these last bytes, ends there. From MinPiece bytes on the ring holds nothing of the piece before it, so it is never cleared.
func isCut(size int, last *ring) bool {
	return size >= MaxPiece || size >= MinPiece && last.sum()%cutDivisor == 0
}

func (r *ring) add(b byte) {
	r.bytes[r.oldest] = b
	r.oldest = (r.oldest + 1) % MinPiece
}

func (r *ring) sum() uint64 {
	sum := sumStart
	for i := range MinPiece {
		sum = sumStep(sum, r.bytes[(r.oldest+i)%MinPiece])
	}
	return sum
}
