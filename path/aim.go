package path

import (
	"iter"
	"slices"

	"kingpin/api"
)

// aim is a pocket to which a ball rolls.
type aim struct {
	roll
	pocket Pocket
}

// hits tells whether a ball that has ended at the spot hits.
func (a aim) hits(at spot) bool {
	return a.arrived(at) && a.pocket.Boards.has(at.Board) && a.pocket.Dirs.has(at.Dir)
}

func (a aim) misses(at spot) bool { return !a.hits(at) }

// finder returns a function that finds, from a spot on, the turns of a truth whose end is as asked. It remembers the spots from which there is none.
func (r roll) finder(is func(spot) bool) func(spot) ([]int, bool) {
	none := map[spot]bool{}
	var find func(at spot) ([]int, bool)
	find = func(at spot) ([]int, bool) {
		if r.ended(at) {
			return nil, is(at)
		}
		if none[at] {
			return nil, false
		}
		for turn, next := range r.next(at) {
			if rest, ok := find(next); ok {
				return slices.Insert(rest, 0, turn), true
			}
		}
		none[at] = true
		return nil, false
	}
	return find
}

// starts yields all starts of the lane, by rising Board, of the same by rising Dir.
func (l Lane) starts() iter.Seq[State] {
	return func(yield func(State) bool) {
		for board := 1; board <= l.Boards; board++ {
			for dir := -api.MaxPathDir; dir <= api.MaxPathDir; dir++ {
				if !yield(State{board, dir}) {
					return
				}
			}
		}
	}
}

// sure yields all starts that surely hit, in the order of starts.
func (a aim) sure() iter.Seq[State] {
	return func(yield func(State) bool) {
		miss := a.finder(a.misses)
		for start := range a.starts() {
			if _, misses := miss(first(start)); !misses && !yield(start) {
				return
			}
		}
	}
}

// roomiest returns, of all the starts that surely hit, the first one with the greatest room, and this room; false, if there are none.
func roomiest(sure []State) (best State, room int, ok bool) {
	rooms := roomsOf(sure)
	// No start has as much: there are not so many boards to both sides.
	room = api.MaxPathBoards
search:
	for ; room >= 0; room-- {
		for _, start := range sure {
			if rooms[start] == room {
				best, ok = start, true
				break search
			}
		}
	}
	return best, room, ok
}

// roomsOf returns the room of each of the starts, which are all that surely hit.
func roomsOf(sure []State) map[State]int {
	rooms := map[State]int{}
	for _, start := range sure {
		rooms[start] = 0
	}
	has := func(board, dir int) bool {
		_, ok := rooms[State{board, dir}]
		return ok
	}
	for _, start := range sure {
		n := 0
		for has(start.Board-n-1, start.Dir) && has(start.Board+n+1, start.Dir) {
			n++
		}
		rooms[start] = n
	}
	return rooms
}
