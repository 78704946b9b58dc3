package rack

import (
	"iter"
	"math/bits"
	"slices"
)

// set is pins of a rack, a bit for each.
type set uint16

func setOf(pins []int) set {
	var s set
	for _, pin := range pins {
		s |= 1 << pin
	}
	return s
}

func (s set) has(pin int) bool { return s>>pin&1 == 1 }

func (s set) size() int { return bits.OnesCount16(uint16(s)) }

func (s set) first() int { return bits.TrailingZeros16(uint16(s)) }

// each yields the pins, rising.
func (s set) each() iter.Seq[int] {
	return func(yield func(int) bool) {
		for rest := s; rest != 0; rest &= rest - 1 {
			if !yield(rest.first()) {
				return
			}
		}
	}
}

func (s set) list() []int { return slices.Collect(s.each()) }

// place is where a pin stands.
type place struct{ row, board int }

// pins returns how many pins the rack has.
func (r Rack) pins() int { return r.Rows * (r.Rows + 1) / 2 }

func (r Rack) place(pin int) place {
	k := pin
	for row := range r.Rows {
		if k <= row {
			return place{row, r.Middle + r.Gap*(2*k-row)}
		}
		k -= row + 1
	}
	return place{}
}

// neighbours yields the neighbours of a pin, whether they stand or not.
func (r Rack) neighbours(pin int) iter.Seq[int] {
	return func(yield func(int) bool) {
		own := r.place(pin)
		for other := range r.pins() {
			if r.beside(own, r.place(other)) && !yield(other) {
				return
			}
		}
	}
}

func (r Rack) beside(a, b place) bool {
	switch apart(a.row, b.row) {
	case 0:
		return apart(a.board, b.board) == 2*r.Gap
	case 1:
		return apart(a.board, b.board) == r.Gap
	}
	return false
}

func (r Rack) kind(leave set) uint8 {
	switch {
	case leave == 0:
		return None
	case leave.size() == 1:
		return Single
	case r.inOnePiece(leave):
		return Plain
	case !leave.has(0):
		return Split
	}
	return Washout
}

// inOnePiece asks this of a leave of some pins.
func (r Rack) inOnePiece(leave set) bool {
	var reached set
	var reach func(pin int)
	reach = func(pin int) {
		reached |= 1 << pin
		for next := range r.neighbours(pin) {
			if leave.has(next) && !reached.has(next) {
				reach(next)
			}
		}
	}
	reach(leave.first())
	return reached == leave
}

func apart(a, b int) int { return max(a-b, b-a) }
