package lend

import (
	"slices"

	"kingpin/api"
)

// pairs has of each size how many pairs there are.
type pairs [api.MaxLendSizes]int

// foot is one of this size.
type foot int

func (f foot) own() int { return int(f) }

func (f foot) next() int { return int(f) + 1 }

// choice is a size that a foot may wear, if it is one.
type choice struct{ of func(foot) int }

// choices are what a foot wears first, and then.
func choices() [2]choice { return [2]choice{{foot.own}, {foot.next}} }

func (f foot) mayWear(size int) bool {
	for _, c := range choices() {
		if c.of(f) == size {
			return true
		}
	}
	return false
}

// take returns the size that the foot wears of the pairs that are left, or None.
func (p *pairs) take(f foot) int {
	for _, c := range choices() {
		if size := c.of(f); isSize(size) && p[size] > 0 {
			p[size]--
			return size
		}
	}
	return None
}

// fit returns a greatest fitting. Smaller feet choose first, and their own size first: greater ones may not wear it, and a pair of the next size serves one foot, whichever has it.
func (h House) fit(feet []int) []int {
	var p pairs
	copy(p[:], h.Shoes)
	worn := make([]int, len(feet))
	for size := range api.MaxLendSizes {
		for i, f := range feet {
			if f == size {
				worn[i] = p.take(foot(f))
			}
		}
	}
	return worn
}

func (h House) lack(feet, sizes []int) int {
	n := 0
	for _, f := range feet {
		if slices.Contains(sizes, f) {
			n++
		}
	}
	for size, many := range h.Shoes {
		if slices.ContainsFunc(sizes, func(f int) bool { return foot(f).mayWear(size) }) {
			n -= many
		}
	}
	return max(n, 0)
}

// contested returns the sizes of which feet have None, or could have it in the place of such a foot. In a greatest fitting all pairs that these sizes may wear are worn by feet of them, so they lack all the pairs that are missing.
func contested(feet, worn []int) []int {
	var sizes []int
	for grown := true; grown; {
		grown = false
		for i, f := range feet {
			wanted := worn[i] == None || slices.ContainsFunc(sizes, func(size int) bool { return foot(size).mayWear(worn[i]) })
			if wanted && !slices.Contains(sizes, f) {
				sizes = append(sizes, f)
				grown = true
			}
		}
	}
	slices.Sort(sizes)
	return sizes
}

// short returns the hours at which the house has not shoes for all that are served.
func (h House) short(l []Group, plan []int) []int {
	var hours []int
	for hour := range api.MaxLendHour + 1 {
		if slices.Contains(h.fit(feetAt(l, plan, hour)), None) {
			hours = append(hours, hour)
		}
	}
	return hours
}

// feetAt returns the feet of all groups that are served and may be there at the hour.
func feetAt(l []Group, plan []int, hour int) []int {
	var feet []int
	for i, g := range l {
		if plan[i] != None && g.has(hour) {
			feet = append(feet, g.Feet...)
		}
	}
	return feet
}
