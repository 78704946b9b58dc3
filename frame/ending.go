package frame

import (
	"math/bits"

	"kingpin/api"
)

// most is the greatest final count by any law.
const most = long * api.MaxFramePins * api.MaxFrameFrames

// totals is a set of the numbers from 0 to most, a bit for each.
type totals [most/64 + 1]uint64

func (t totals) has(n int) bool {
	return n >= 0 && n <= most && t[n/64]>>(n%64)&1 == 1
}

// join adds all numbers of another set, each made greater by the same.
func (t *totals) join(other totals, by int) {
	words, rest := by/64, by%64
	for i := words; i < len(t); i++ {
		t[i] |= other[i-words] << rest
		if i > words {
			t[i] |= other[i-words-1] >> (64 - rest)
		}
	}
}

func (t totals) least() int {
	for i, word := range t {
		if word != 0 {
			return i*64 + bits.TrailingZeros64(word)
		}
	}
	return 0
}

func (t totals) greatest() int {
	for i := len(t) - 1; i >= 0; i-- {
		if t[i] != 0 {
			return i*64 + bits.Len64(t[i]) - 1
		}
	}
	return 0
}

// ends has how the ends of a span are found.
type ends struct{ lo, hi func(totals) int }

func (t totals) span() Range {
	of := ends{lo: totals.least, hi: totals.greatest}
	return Range{of.lo(t), of.hi(t)}
}

// search returns a function that tells by how much the endings of a game can make its count greater. It remembers what it has found, so one search serves games of one law only.
func search() func(game) totals {
	found := map[stand]totals{}
	var rest func(game) totals
	rest = func(g game) totals {
		if t, ok := found[g.stand]; ok {
			return t
		}
		var t totals
		if g.done() {
			t = totals{1} // the number 0 alone
		}
		for ball, adds := range g.following() {
			t.join(rest(g.behind(ball)), adds)
		}
		found[g.stand] = t
		return t
	}
	return rest
}

// finals returns the final counts of all endings.
func (r *record) finals(rest func(game) totals) totals {
	var t totals
	t.join(rest(r.game), r.total)
	return t
}

// ending returns balls behind which the game ends, and that make its count greater by just so much, if there are any.
func ending(g game, by int, rest func(game) totals) []int {
	for ball, adds := range g.following() {
		next := g.behind(ball)
		if rest(next).has(by - adds) {
			return append([]int{ball}, ending(next, by-adds, rest)...)
		}
	}
	return nil
}
