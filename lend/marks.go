package lend

import (
	"slices"

	"kingpin/api"
)

// bound returns the bound of the marks: at each of them every lane has one group at most, and the groups without a mark are counted one by one.
func (h House) bound(l []Group, marks []int) int {
	n := h.Lanes * len(marks)
	for _, g := range l {
		if !slices.ContainsFunc(marks, g.has) {
			n++
		}
	}
	return n
}

// cheapest returns marks whose bound is the least.
func (h House) cheapest(l []Group) []int {
	costs := map[int]int{}
	// cost is the least that marks behind this one, and groups that come behind it, add to a bound.
	var cost func(mark int) int
	with := func(mark, next int) int { return between(l, mark, next) + h.Lanes + cost(next) }
	cost = func(mark int) int {
		if c, known := costs[mark]; known {
			return c
		}
		c := behind(l, mark)
		for next := mark + 1; isHour(next); next++ {
			c = least(c, with(mark, next))
		}
		costs[mark] = c
		return c
	}
	var marks []int
	last := -1
	for next := 0; cost(last) < behind(l, last); next++ {
		if cost(last) == with(last, next) {
			marks = append(marks, next)
			last = next
		}
	}
	return marks
}

// behind counts the groups all of whose longest hours are behind the mark.
func behind(l []Group, mark int) int { return between(l, mark, api.MaxLendHour+1) }

// between counts the groups all of whose longest hours are between the marks.
func between(l []Group, mark, next int) int {
	n := 0
	for _, g := range l {
		if g.From > mark && g.To.Hi < next {
			n++
		}
	}
	return n
}

func least(first int, others ...int) int {
	for _, n := range others {
		first = min(first, n)
	}
	return first
}
