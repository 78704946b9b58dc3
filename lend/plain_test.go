package lend_test

import (
	"math/rand"
	"slices"
	"testing"

	"kingpin/api"
	"kingpin/lend"
)

// The slow model: by the words of the chapter, and nothing of the package.

func longest(g lend.Group) []int {
	var hours []int
	for hour := range 31 {
		if hour >= g.From && hour <= g.To.Hi {
			hours = append(hours, hour)
		}
	}
	return hours
}

func meet(a, b []int) bool {
	return slices.ContainsFunc(a, func(hour int) bool { return slices.Contains(b, hour) })
}

func isRight(h lend.House, l []lend.Group, plan []int) bool {
	if len(plan) != len(l) {
		return false
	}
	for i, lane := range plan {
		if lane < none || lane >= h.Lanes {
			return false
		}
		for j := range i {
			if lane != none && lane == plan[j] && meet(longest(l[i]), longest(l[j])) {
				return false
			}
		}
	}
	return true
}

func servedBy(plan []int) int {
	return len(plan) - len(slices.DeleteFunc(slices.Clone(plan), func(lane int) bool { return lane != none }))
}

// plans visits all right plans.
func plans(h lend.House, l []lend.Group, visit func(plan []int)) {
	var plan []int
	var next func()
	next = func() {
		if len(plan) == len(l) {
			visit(plan)
			return
		}
		for lane := none; lane < h.Lanes; lane++ {
			plan = append(plan, lane)
			if isRight(h, l[:len(plan)], plan) {
				next()
			}
			plan = plan[:len(plan)-1]
		}
	}
	next()
}

func plainMany(h lend.House, l []lend.Group) int {
	many := 0
	plans(h, l, func(plan []int) { many = max(many, servedBy(plan)) })
	return many
}

func plainBound(h lend.House, l []lend.Group, marks []int) int {
	n := 0
	for range marks {
		n += h.Lanes
	}
	for _, g := range l {
		if !meet(marks, longest(g)) {
			n++
		}
	}
	return n
}

// sublists yields all lists of some of the numbers below n, each rising.
func sublists(n int) func(yield func([]int) bool) {
	return func(yield func([]int) bool) {
		for set := range 1 << n {
			var list []int
			for i := range n {
				if set>>i&1 == 1 {
					list = append(list, i)
				}
			}
			if !yield(list) {
				return
			}
		}
	}
}

func plainLater(h lend.House, l []lend.Group, plan []int, group int) (lane, hour int, ok bool) {
	n := len(longest(l[group]))
	for hour := l[group].From; hour+n-1 <= 30; hour++ {
		for lane := range h.Lanes {
			free := true
			for i, g := range l {
				for x := hour; x < hour+n; x++ {
					free = free && (plan[i] != lane || !slices.Contains(longest(g), x))
				}
			}
			if free {
				return lane, hour, true
			}
		}
	}
	return 0, 0, false
}

func mayWear(foot, size int) bool { return size >= 0 && size < 10 && (size == foot || size == foot+1) }

// plainBare is the fewest feet with None of all fittings.
func plainBare(h lend.House, feet []int) int {
	left := slices.Clone(h.Shoes)
	var next func(feet []int) int
	next = func(feet []int) int {
		if len(feet) == 0 {
			return 0
		}
		bare := 1 + next(feet[1:])
		for size := range left {
			if mayWear(feet[0], size) && left[size] > 0 {
				left[size]--
				bare = min(bare, next(feet[1:]))
				left[size]++
			}
		}
		return bare
	}
	return next(feet)
}

func plainLack(h lend.House, feet, sizes []int) int {
	n := 0
	for _, f := range feet {
		if slices.Contains(sizes, f) {
			n++
		}
	}
	for size, pairs := range h.Shoes {
		if slices.ContainsFunc(sizes, func(f int) bool { return mayWear(f, size) }) {
			n -= pairs
		}
	}
	return max(n, 0)
}

// plainMost is the most that any sizes lack.
func plainMost(h lend.House, feet []int) int {
	most := 0
	for sizes := range sublists(10) {
		most = max(most, plainLack(h, feet, sizes))
	}
	return most
}

func isFitting(h lend.House, feet, worn []int) bool {
	left := slices.Clone(h.Shoes)
	for i, size := range worn {
		if size == none {
			continue
		}
		if !mayWear(feet[i], size) || left[size] == 0 {
			return false
		}
		left[size]--
	}
	return len(worn) == len(feet)
}

func bareIn(worn []int) int { return len(worn) - servedBy(worn) }

func feetAt(l []lend.Group, plan []int, hour int) []int {
	var feet []int
	for i, g := range l {
		if plan[i] != none && slices.Contains(longest(g), hour) {
			feet = append(feet, g.Feet...)
		}
	}
	return feet
}

func plainShort(h lend.House, l []lend.Group, plan []int) []int {
	var hours []int
	for hour := range 31 {
		if plainMost(h, feetAt(l, plan, hour)) > 0 {
			hours = append(hours, hour)
		}
	}
	return hours
}

// By chance.

func someShoes(r *rand.Rand, most int) []int {
	shoes := make([]int, 10)
	for i := range shoes {
		shoes[i] = r.Intn(most + 1)
	}
	return shoes
}

func someFeet(r *rand.Rand, many int) []int {
	feet := make([]int, r.Intn(many+1))
	low := r.Intn(10)
	for i := range feet {
		feet[i] = min(low+r.Intn(4), 9)
	}
	return feet
}

// someGroups come and go at hours up to the last one.
func someGroups(r *rand.Rand, many, last int) []lend.Group {
	l := make([]lend.Group, r.Intn(many+1))
	for i := range l {
		from := r.Intn(last + 1)
		high := from + r.Intn(last+1-from)
		if r.Intn(3) > 0 {
			high = min(from+r.Intn(4), last)
		}
		l[i] = group(from, from+r.Intn(high-from+1), high, someFeet(r, 6)...)
	}
	return l
}

// somePlan is a right one that serves some of the groups.
func somePlan(r *rand.Rand, h lend.House, l []lend.Group) []int {
	plan := make([]int, len(l))
	for i := range plan {
		plan[i] = none
	}
	for _, i := range r.Perm(len(l)) {
		plan[i] = r.Intn(h.Lanes+1) - 1
		if !isRight(h, l, plan) {
			plan[i] = none
		}
	}
	return plan
}

// The calls, where no error may come.

func mustOK(t *testing.T, e api.Errno, what ...any) {
	t.Helper()
	if e != api.OK {
		t.Fatalf("%v of %v", e, what)
	}
}

func mustServe(t *testing.T, h lend.House, l []lend.Group) []int {
	t.Helper()
	plan, e := lend.Serve(h, l)
	mustOK(t, e, h, l)
	return plan
}

// many is the greatest number, as Serve has it.
func many(t *testing.T, h lend.House, l []lend.Group) int {
	t.Helper()
	return servedBy(mustServe(t, h, l))
}

func mustMarks(t *testing.T, h lend.House, l []lend.Group) []int {
	t.Helper()
	marks, e := lend.Marks(h, l)
	mustOK(t, e, h, l)
	return marks
}

func mustBound(t *testing.T, h lend.House, l []lend.Group, marks []int) int {
	t.Helper()
	n, e := lend.Bound(h, l, marks)
	mustOK(t, e, h, l, marks)
	return n
}

// laterOf is false, if the group cannot come any more.
func laterOf(t *testing.T, h lend.House, l []lend.Group, plan []int, group int) (lane, hour int, ok bool) {
	t.Helper()
	lane, hour, e := lend.Later(h, l, plan, group)
	if e == api.ErrNone {
		return lane, hour, false
	}
	mustOK(t, e, h, l, plan, group)
	return lane, hour, true
}

func mustFit(t *testing.T, h lend.House, feet []int) []int {
	t.Helper()
	worn, e := lend.Fit(h, feet)
	mustOK(t, e, h, feet)
	return worn
}

// bare is how many feet have None, as Fit has it.
func bare(t *testing.T, h lend.House, feet []int) int {
	t.Helper()
	return bareIn(mustFit(t, h, feet))
}

func mustSizes(t *testing.T, h lend.House, feet []int) []int {
	t.Helper()
	sizes, e := lend.Sizes(h, feet)
	mustOK(t, e, h, feet)
	return sizes
}

func mustLack(t *testing.T, h lend.House, feet, sizes []int) int {
	t.Helper()
	n, e := lend.Lack(h, feet, sizes)
	mustOK(t, e, h, feet, sizes)
	return n
}

func mustShort(t *testing.T, h lend.House, l []lend.Group, plan []int) []int {
	t.Helper()
	hours, e := lend.Short(h, l, plan)
	mustOK(t, e, h, l, plan)
	return hours
}
