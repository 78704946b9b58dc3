package ladder

import (
	"iter"
)

// end is one of the two sides that each match has.
type end struct{ of func(Pair) Side }

func ends() [2]end { return [2]end{{Pair.first}, {Pair.second}} }

func (p Pair) first() Side { return p.First }

func (p Pair) second() Side { return p.Second }

// playedBy is the two players of the match by the winners of the lesser ones: None for one that is not known.
func (p Pair) playedBy(winners []int) [2]int {
	var players [2]int
	for i, e := range ends() {
		side := e.of(p)
		players[i] = side.Player
		if side.Match != None {
			players[i] = winners[side.Match]
		}
	}
	return players
}

func playerSide(player int) Side { return Side{player, None} }

func winnerSide(match int) Side { return Side{None, match} }

// matches are the sides of all matches, by number.
func (c Cup) matches() iter.Seq[Pair] {
	if c.Form == Ladder {
		return c.ladder
	}
	return c.bracket
}

func (c Cup) ladder(yield func(Pair) bool) {
	below := playerSide(c.Players - 1)
	for n := range c.Players - 1 {
		if !yield(Pair{playerSide(c.last() - n), below}) {
			return
		}
		below = winnerSide(n)
	}
}

func (c Cup) bracket(yield func(Pair) bool) {
	next := 0
	for round := c.places(); len(round) > 1; {
		var out []Side
		for i := 0; i < len(round); i += 2 {
			p := Pair{round[i], round[i+1]}
			// Only the second one of two neighbours may be nobody: the first one is a seed of the lesser half, and more than half of the places are taken.
			if p.Second == nobody() {
				out = append(out, p.First)
				continue
			}
			if !yield(p) {
				return
			}
			out = append(out, winnerSide(next))
			next++
		}
		round = out
	}
}

// nobody is the side of a place that no player has.
func nobody() Side { return Side{None, None} }

// places are the sides of the first round.
func (c Cup) places() []Side {
	var places []Side
	for _, seed := range c.seeds() {
		side := nobody()
		if seed < c.Players {
			side = playerSide(seed)
		}
		places = append(places, side)
	}
	return places
}

// seeds are the seeds of the places, in their order.
func (c Cup) seeds() []int {
	var doubled func(order []int) []int
	doubled = func(order []int) []int {
		if len(order) >= c.Players {
			return order
		}
		var wider []int
		for _, seed := range order {
			wider = append(wider, seed, 2*len(order)-1-seed)
		}
		return doubled(wider)
	}
	return doubled([]int{0})
}
