package path

import (
	"cmp"
	"iter"
	"maps"
	"slices"

	"kingpin/api"
)

func (s State) compare(other State) int {
	return cmp.Or(cmp.Compare(s.Board, other.Board), cmp.Compare(s.Dir, other.Dir))
}

// spot is a state in a row. In the gutter its board is none of the lane.
type spot struct {
	State
	row int
}

func first(start State) spot { return spot{start, 0} }

// turned returns where a ball is behind a spot from which it turns by the number.
func (at spot) turned(turn int) spot {
	dir := min(max(at.Dir+turn, -api.MaxPathDir), api.MaxPathDir)
	return spot{State{at.Board + dir, dir}, at.row + 1}
}

// levels has the level of each board in a row; the element 0 is of none.
type levels [api.MaxPathBoards + 1]int

func (l Lane) levelsIn(row int) levels {
	var of levels
	for _, p := range l.Patches {
		if !p.Rows.has(row) {
			continue
		}
		for board := p.Boards.Lo; board <= p.Boards.Hi; board++ {
			of[board] = p.Level
		}
	}
	return of
}

// roll is a ball that rolls down a lane.
type roll struct {
	Lane
	oil []levels
}

func rolling(l Lane) roll {
	r := roll{Lane: l}
	for row := range l.Rows {
		r.oil = append(r.oil, l.levelsIn(row))
	}
	return r
}

// end is what a ball may have come to, so that it goes no farther.
type end struct {
	at func(roll, spot) bool
}

func ends() [2]end { return [2]end{{roll.inGutter}, {roll.arrived}} }

func (r roll) inGutter(at spot) bool { return !r.hasBoard(at.Board) }

func (r roll) arrived(at spot) bool { return r.hasBoard(at.Board) && at.row == r.Rows-1 }

func (r roll) ended(at spot) bool {
	for _, e := range ends() {
		if e.at(r, at) {
			return true
		}
	}
	return false
}

// hook returns by which numbers a ball turns that has not ended.
func (r roll) hook(at spot) Range { return r.Hooks[r.oil[at.row][at.Board]] }

// next yields each number by which a ball turns that has not ended, and where it is then.
func (r roll) next(at spot) iter.Seq2[int, spot] {
	return func(yield func(int, spot) bool) {
		hook := r.hook(at)
		for turn := hook.Lo; turn <= hook.Hi; turn++ {
			if !yield(turn, at.turned(turn)) {
				return
			}
		}
	}
}

// way returns all spots of the ball, one in the gutter too; false if the turns are no truth of it.
func (r roll) way(start State, turns []int) ([]spot, bool) {
	at := first(start)
	way := []spot{at}
	for _, turn := range turns {
		if r.ended(at) || !r.hook(at).has(turn) {
			return nil, false
		}
		at = at.turned(turn)
		way = append(way, at)
	}
	return way, r.ended(at)
}

// reach returns the states in a row, in any order, and whether some truth is in the gutter by then.
func (r roll) reach(start State, row int) (states []State, lost bool) {
	reached := map[State]bool{start: true}
	for before := range row {
		behind := map[State]bool{}
		for s := range reached {
			for _, at := range r.next(spot{s, before}) {
				if r.inGutter(at) {
					lost = true
				} else {
					behind[at.State] = true
				}
			}
		}
		reached = behind
	}
	return slices.Collect(maps.Keys(reached)), lost
}

// turn returns the range of the turns of all truths.
func (r roll) turn(start State) Range {
	known := map[spot]Range{}
	var from func(at spot) Range
	from = func(at spot) Range {
		if r.inGutter(at) {
			// It is over no board there; all boards are above 0.
			return Range{}
		}
		if r.arrived(at) {
			return Range{at.Board, at.Board}
		}
		turn, ok := known[at]
		if !ok {
			var low, high []int
			for _, next := range r.next(at) {
				behind := from(next)
				low = append(low, behind.Lo)
				high = append(high, behind.Hi)
			}
			turn = Range{greatest(at.Board, least(r.Boards, low...)), greatest(at.Board, high...)}
			known[at] = turn
		}
		return turn
	}
	return from(first(start))
}

func least(board int, more ...int) int {
	for _, n := range more {
		board = min(board, n)
	}
	return board
}

func greatest(board int, more ...int) int {
	for _, n := range more {
		board = max(board, n)
	}
	return board
}
