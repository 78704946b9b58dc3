package oil

import (
	"iter"
	"slices"

	"kingpin/api"
)

// pattern has the oil of each cell; those that the lane does not have stay 0.
type pattern [api.MaxOilRows][api.MaxOilBoards]int

// cell is a board in a row.
type cell struct{ row, board int }

// cells yields those over which the ball goes, row by row.
func cells(ball []int) iter.Seq[cell] {
	return func(yield func(cell) bool) {
		for row, board := range ball {
			if !yield(cell{row, board}) {
				return
			}
		}
	}
}

// end tells of which wear in the row before a cell, and in its own one, its oil comes to one of its bounds.
type end struct{ before, own func(Range) int }

func (r Range) low() int { return r.Lo }

func (r Range) high() int { return r.Hi }

// worn is a lane with the oil that balls have left.
type worn struct {
	Lane
	oil pattern
}

// fresh is the lane just behind a laying.
func (l Lane) fresh() worn {
	w := worn{Lane: l}
	for row := range len(l.Fresh) {
		copy(w.oil[row][:], l.Fresh[row])
	}
	return w
}

// least is the lane with the least oil that each cell has behind the balls.
func (l Lane) least(balls ...[]int) worn {
	w := l.fresh()
	w.bowlTo(end{Range.low, Range.high}, balls...)
	return w
}

// most is the lane with the greatest oil that each cell has behind the balls.
func (l Lane) most(balls ...[]int) worn {
	w := l.fresh()
	w.bowlTo(end{Range.high, Range.low}, balls...)
	return w
}

// bowl has a ball go over the lane, and wear so much in each row.
func (w *worn) bowl(ball, wear []int) {
	before := 0
	for at := range cells(ball) {
		w.pass(at, before, wear[at.row])
		before = wear[at.row]
	}
}

// bowlTo leaves the same end of what the balls may leave in each cell. No one truth needs to leave them all.
func (w *worn) bowlTo(e end, balls ...[]int) {
	for _, ball := range balls {
		for at := range cells(ball) {
			w.pass(at, e.before(w.Wear), e.own(w.Wear))
		}
	}
}

// pass adds to the oil of the cell what is carried along from the row before, and then wears it.
func (w *worn) pass(at cell, before, own int) {
	carried := 0
	if at.row > 0 {
		carried = w.Carry * before / 100
	}
	oil := &w.oil[at.row][at.board]
	*oil = max(min(*oil+carried, api.MaxOilLevel)-own, 0)
}

// playable bowls the lines up to the first one for which some cell may lack oil, and tells how many these are. The lane is one of least oil.
func (w *worn) playable(lines ...Line) int {
	many := 0
search:
	for _, x := range lines {
		for at := range cells(x.Ball) {
			if w.oil[at.row][at.board] < x.Need[at.row] {
				break search
			}
		}
		w.bowlTo(end{Range.low, Range.high}, x.Ball)
		many++
	}
	return many
}

// pattern is the oil of the lane's cells, in memory of its own.
func (w *worn) pattern() [][]int {
	var rows [][]int
	for row := range len(w.Fresh) {
		rows = append(rows, slices.Clone(w.oil[row][:len(w.Fresh[row])]))
	}
	return rows
}
