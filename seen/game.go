package seen

import (
	"iter"

	"kingpin/api"
)

// rolled is a game of one frame, told by how many pins stood behind its balls: no two games have the same. Where the first ball felled all, none stood behind the second one, which there is not.
type rolled struct{ first, second int }

func (g rolled) behindFirst() int { return g.first }

func (g rolled) behindSecond() int { return g.second }

func (g rolled) fell() int { return api.MaxSeenPins - g.second }

// ball is a ball of a frame, by its number, and how many pins stood behind it in a game.
type ball struct {
	number int
	stood  func(rolled) int
}

func balls() [2]ball {
	return [2]ball{{0, rolled.behindFirst}, {1, rolled.behindSecond}}
}

// rolledBy returns the game of a frame that has these balls; false if there is none.
func rolledBy(fell []int) (rolled, bool) {
	const pins = api.MaxSeenPins
	switch {
	case len(fell) == 1 && fell[0] == pins:
		return rolled{}, true
	case len(fell) == 2 && within(fell[0], 0, pins-1) && within(fell[1], 0, pins-fell[0]):
		return rolled{pins - fell[0], pins - fell[0] - fell[1]}, true
	}
	return rolled{}, false
}

// allRolled yields all games of a frame.
func allRolled() iter.Seq[rolled] {
	return func(yield func(rolled) bool) {
		for first := range api.MaxSeenPins + 1 {
			for second := range first + 1 {
				if !yield(rolled{first, second}) {
					return
				}
			}
		}
	}
}

// ranges yields the range of each place, frame by frame.
func ranges(frames [][]rolled) iter.Seq2[Place, Range] {
	return func(yield func(Place, Range) bool) {
		for frame, games := range frames {
			for _, b := range balls() {
				if !yield(Place{frame, b.number}, between(games, b.stood)) {
					return
				}
			}
		}
	}
}

// between returns the range of a number of some games.
func between(games []rolled, number func(rolled) int) Range {
	var numbers []int
	for _, g := range games {
		numbers = append(numbers, number(g))
	}
	return span(numbers...)
}

func span(numbers ...int) Range {
	var r Range
	for i, n := range numbers {
		if i == 0 {
			r = Range{n, n}
		}
		r = Range{min(r.Lo, n), max(r.Hi, n)}
	}
	return r
}
