package rack

import (
	"iter"

	"kingpin/api"
)

// course is the board of a ball in each row; of rows that the rack does not have it means nothing.
type course [api.MaxRackRows]int

// truth is what is not known of a ball: its boards, and which links carry.
type truth struct {
	boards  course
	carries func(Link) bool
}

// With each link more that carries no fewer pins fall. So of all truths with the same boards the fewest fall in the one in which just the links carry that surely do, and the most in the one in which all carry that may: these two stand for all of them.

func (l Link) surely() bool { return l.Sure }

func (l Link) perhaps() bool { return true }

// struck is a rack that is hit, in a truth.
type struck struct {
	Rack
	truth
	stood set
}

// reaches tells whether the ball itself fells the pin.
func (s struck) reaches(pin int) bool {
	at := s.place(pin)
	return apart(at.board, s.boards[at.row]) <= s.Reach
}

// touched returns the pins that the ball itself fells.
func (s struck) touched() set {
	var touched set
	reaches := s.reaches
	for pin := range s.stood.each() {
		if reaches(pin) {
			touched |= 1 << pin
		}
	}
	return touched
}

func (s struck) left() set { return s.leftBy(s.touched()) }

// leftBy returns what is left if the ball itself fells the pins that it has touched.
func (s struck) leftBy(touched set) set {
	left := s.stood
	var fall func(pin int)
	fall = func(pin int) {
		left &^= 1 << pin
		for _, l := range s.Links {
			if l.From == pin && s.carries(l) && left.has(l.To) {
				fall(l.To)
			}
		}
	}
	for pin := range touched.each() {
		if left.has(pin) {
			fall(pin)
		}
	}
	return left
}

// blow is pins that stood, and those of them that the ball itself fells. What is left behind it depends on nothing else but the links that carry.
type blow struct{ stood, touched set }

// leaves yields what is left by each course of the ball, if the links carry as told.
func leaves(r Rack, stood set, ball []Range, carries func(Link) bool) iter.Seq[set] {
	return func(yield func(set) bool) {
		known := map[blow]set{}
		for boards := range courses(ball) {
			s := struck{r, truth{boards, carries}, stood}
			b := blow{stood, s.touched()}
			left, ok := known[b]
			if !ok {
				left = s.leftBy(b.touched)
				known[b] = left
			}
			if !yield(left) {
				return
			}
		}
	}
}

// courses yields each choice of one board of each range.
func courses(ball []Range) iter.Seq[course] {
	return func(yield func(course) bool) {
		var c course
		var from func(row int) bool
		from = func(row int) bool {
			if row == len(ball) {
				return yield(c)
			}
			for board := ball[row].Lo; board <= ball[row].Hi; board++ {
				c[row] = board
				if !from(row + 1) {
					return false
				}
			}
			return true
		}
		from(0)
	}
}

// carrying returns the links that carry.
func carrying(links []Link, carries []bool) []Link {
	var list []Link
	for i, l := range links {
		if carries[i] {
			list = append(list, l)
		}
	}
	return list
}

func least(first int, more ...int) int {
	for _, n := range more {
		first = min(first, n)
	}
	return first
}

func greatest(first int, more ...int) int {
	for _, n := range more {
		first = max(first, n)
	}
	return first
}
