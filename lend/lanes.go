package lend

import (
	"cmp"
	"iter"
	"slices"
)

// alley is a house at work, and when its lanes are taken.
type alley struct {
	House
	taken map[spot]bool
}

type spot struct{ lane, hour int }

func (h House) opened() alley { return alley{h, map[spot]bool{}} }

// hours yields the longest hours of the group.
func (g Group) hours() iter.Seq[int] {
	return func(yield func(int) bool) {
		for hour := g.From; hour <= g.To.Hi; hour++ {
			if !yield(hour) {
				return
			}
		}
	}
}

func (g Group) has(hour int) bool { return within(hour, g.From, g.To.Hi) }

// nextHour is the group, if it came an hour later.
func (g Group) nextHour() Group {
	g.From++
	g.To.Lo++
	g.To.Hi++
	return g
}

func (a alley) free(lane int, g Group) bool {
	for hour := range g.hours() {
		if a.taken[spot{lane, hour}] {
			return false
		}
	}
	return true
}

func (a alley) lend(lane int, g Group) {
	for hour := range g.hours() {
		a.taken[spot{lane, hour}] = true
	}
}

// lent is the house with its lanes as the plan has them; false, if the plan is not right.
func (h House) lent(l []Group, plan []int) (alley, bool) {
	a := h.opened()
	for i, lane := range plan {
		if lane == None {
			continue
		}
		if !a.free(lane, l[i]) {
			return alley{}, false
		}
		a.lend(lane, l[i])
	}
	return a, true
}

// serve returns a right plan that serves the most. Who may go first gets a lane first: any other group would keep it for as long, or longer.
func (h House) serve(l []Group) []int {
	a := h.opened()
	plan := make([]int, len(l))
	for _, i := range byLast(l) {
		plan[i] = a.laneFor(l[i])
		if plan[i] != None {
			a.lend(plan[i], l[i])
		}
	}
	return plan
}

// byLast returns the groups' numbers by the last of their longest hours.
func byLast(l []Group) []int {
	order := make([]int, len(l))
	for i := range order {
		order[i] = i
	}
	slices.SortStableFunc(order, func(a, b int) int { return cmp.Compare(l[a].To.Hi, l[b].To.Hi) })
	return order
}

// laneFor returns a lane that is free for the group, or None. Of several it is the one that has been empty the least long, as groups that come earlier, and are still to be served, may need the others.
func (a alley) laneFor(g Group) int {
	found := None
search:
	for hour := g.From - 1; hour >= -1; hour-- {
		unused := hour < 0
		for lane := range a.Lanes {
			if (unused || a.taken[spot{lane, hour}]) && a.free(lane, g) {
				found = lane
				break search
			}
		}
	}
	return found
}

// later returns the first hour, and the least lane, at which a lane is free for the group; false, if there is none.
func (a alley) later(g Group) (at spot, ok bool) {
search:
	for ; isHour(g.To.Hi); g = g.nextHour() {
		for lane := range a.Lanes {
			if a.free(lane, g) {
				at, ok = spot{lane, g.From}, true
				break search
			}
		}
	}
	return at, ok
}

func served(plan []int) int {
	n := 0
	for _, lane := range plan {
		if lane != None {
			n++
		}
	}
	return n
}
