// Package impl: a store between machines that may lie.
package impl

import "strings"

// Limits of sums.
const (
	MaxWidth = 8
	MaxClash = 2000
)

// What the sum of 64 bits begins as, and what it is multiplied by.
const (
	sumStart  uint64 = 14695981039346656037
	sumFactor uint64 = 1099511628211
)

// sumKey is a sum as the key of a map; the bytes behind its width are 0.
type sumKey [MaxWidth]byte

// Sum is the sum of a text.
func Sum(text string, width int) string {
	if !isWidth(width) {
		return ""
	}
	key := keyOf(text, width)
	return string(key[:width])
}

// Clash looks for two different texts with one sum.
func Clash(texts []string, width int) (string, string, bool) {
	if !isWidth(width) || len(texts) > MaxClash {
		return "", "", false
	}
	// The first place of a sum is enough: as long as nothing was found, all texts with this sum are the one there.
	first := make(map[sumKey]int, len(texts))
	for j, text := range texts {
		key := keyOf(text, width)
		i, seen := first[key]
		if !seen {
			first[key] = j
		} else if texts[i] != text {
			return strings.Clone(texts[i]), strings.Clone(text), true
		}
	}
	return "", "", false
}

func isWidth(width int) bool {
	return width >= 1 && width <= MaxWidth
}

// keyOf wants a valid width.
func keyOf(text string, width int) sumKey {
	sum := sum64(text)
	var key sumKey
	for i := width - 1; i >= 0; i-- {
		key[i] = byte(sum)
		sum >>= 8
	}
	return key
}

func sum64(text string) uint64 {
	sum := sumStart
	for i := 0; i < len(text); i++ {
		sum = sumStep(sum, text[i])
	}
	return sum
}

func sumStep(sum uint64, b byte) uint64 {
	return (sum ^ uint64(b)) * sumFactor
}
