package lend_test

import (
	"slices"
	"testing"

	"kingpin/api"
	"kingpin/lend"
)

const none = lend.None

func list(x ...int) []int { return x }

func groups(l ...lend.Group) []lend.Group { return l }

func group(from, low, high int, feet ...int) lend.Group {
	return lend.Group{From: from, To: lend.Range{Lo: low, Hi: high}, Feet: feet}
}

// stay is a group that goes behind a known hour, without feet.
func stay(from, last int) lend.Group { return group(from, last, last) }

// house has, of the sizes from 0 on, so many pairs, and none of the others.
func house(lanes int, shoes ...int) lend.House {
	return lend.House{Lanes: lanes, Shoes: append(slices.Clone(shoes), make([]int, 10-len(shoes))...)}
}

func same(many, n int) []int { return slices.Repeat(list(n), many) }

// hours are all from the first to the last.
func hours(first, last int) []int {
	var l []int
	for hour := first; hour <= last; hour++ {
		l = append(l, hour)
	}
	return l
}

// The house and the groups of the chapter's examples.
func example() (lend.House, []lend.Group) {
	return house(2, 0, 0, 0, 0, 1, 2), groups(group(1, 2, 3, 4, 5), group(2, 4, 4, 5), group(3, 3, 6, 4), stay(5, 5))
}

func TestExamples(t *testing.T) {
	h, l := example()
	plan := list(0, 1, none, 0)
	if p := mustServe(t, h, l); servedBy(p) != 3 || !isRight(h, l, p) || !lend.ProvePlan(h, l, plan, 3) {
		t.Errorf("Serve: %v", p)
	}
	if marks := mustMarks(t, h, l); plainBound(h, l, marks) != 3 {
		t.Errorf("Marks: %v", marks)
	}
	for _, x := range []struct {
		marks []int
		want  int
	}{{list(3), 3}, {nil, 4}, {list(3, 5), 4}} {
		if n := mustBound(t, h, l, x.marks); n != x.want {
			t.Errorf("Bound of %v: %d, not %d", x.marks, n, x.want)
		}
	}
	if lane, hour, ok := laterOf(t, h, l, plan, 2); lane != 1 || hour != 5 || !ok {
		t.Errorf("Later: %d, %d, %v", lane, hour, ok)
	}
	feet := list(4, 4, 5, 5)
	if worn := mustFit(t, h, feet); bareIn(worn) != 1 || !isFitting(h, feet, worn) {
		t.Errorf("Fit: %v", worn)
	}
	if sizes := mustSizes(t, h, feet); !slices.Equal(sizes, list(4, 5)) {
		t.Errorf("Sizes: %v", sizes)
	}
	if n := mustLack(t, h, feet, list(4, 5)); n != 1 {
		t.Errorf("Lack of 4, 5: %d", n)
	}
	if n := mustLack(t, h, feet, list(5)); n != 0 {
		t.Errorf("Lack of 5: %d", n)
	}
	if hours := mustShort(t, h, l, plan); len(hours) != 0 {
		t.Errorf("Short: %v", hours)
	}
}

// P6.1, P6.2: the most groups, and marks that show it.
func TestServe(t *testing.T) {
	for _, x := range []struct {
		lanes int
		l     []lend.Group
		many  int
	}{
		{0, nil, 0},
		{5, nil, 0},
		{0, groups(stay(0, 0), stay(5, 6)), 0},
		{1, groups(stay(0, 0)), 1},
		{1, groups(stay(30, 30)), 1},
		{1, groups(stay(0, 30), stay(0, 30)), 1},
		// To is as wide as may be: a group that may go at once may also stay.
		{1, groups(group(0, 0, 30), stay(30, 30)), 1},
		{1, groups(group(0, 0, 29), stay(30, 30)), 2},
		// The last hour is one of the group's own.
		{1, groups(stay(0, 3), stay(3, 5)), 1},
		{1, groups(stay(0, 3), stay(4, 5)), 2},
		// Who has to go for the others comes first, or stays the longest.
		{1, groups(stay(0, 20), stay(1, 2), stay(3, 4), stay(20, 21)), 3},
		{1, groups(stay(5, 9), stay(0, 5), stay(9, 12)), 2},
		// The lane that is empty the longest must be kept for a group that comes early, and stays long.
		{2, groups(stay(0, 1), stay(0, 3), stay(4, 5), stay(2, 6)), 4},
		{2, groups(stay(2, 6), stay(4, 5), stay(0, 3), stay(0, 1)), 4},
		{2, groups(stay(0, 5), stay(0, 5), stay(0, 5), stay(6, 6), stay(6, 6), stay(6, 6)), 4},
		{3, groups(stay(0, 5), stay(0, 5), stay(0, 5), stay(6, 6), stay(6, 6), stay(6, 6)), 6},
		{5, groups(stay(3, 3), stay(3, 3), stay(3, 3), stay(3, 3), stay(3, 3), stay(3, 3), stay(3, 3), stay(3, 3)), 5},
		{1, groups(stay(0, 0), stay(1, 1), stay(2, 2), stay(3, 3), stay(4, 4), stay(5, 5), stay(6, 6), stay(7, 7)), 8},
		// Shoes do not matter for lanes.
		{1, groups(group(4, 4, 4, 0, 9, 9, 9, 9, 9)), 1},
	} {
		h := house(x.lanes)
		plan := mustServe(t, h, x.l)
		if servedBy(plan) != x.many || !isRight(h, x.l, plan) || !lend.ProvePlan(h, x.l, plan, x.many) {
			t.Errorf("Serve of %v on %d lanes: %v", x.l, x.lanes, plan)
		}
		if marks := mustMarks(t, h, x.l); plainBound(h, x.l, marks) != x.many || mustBound(t, h, x.l, marks) != x.many {
			t.Errorf("Marks of %v on %d lanes: %v", x.l, x.lanes, marks)
		}
	}
}

// P6.1: the plan is right, with a lane or None for each group, and serves at least as many.
func TestProvePlan(t *testing.T) {
	h := house(2)
	l := groups(stay(0, 3), group(3, 4, 5), stay(6, 6), stay(0, 30))
	for _, x := range []struct {
		plan []int
		many int
		want bool
	}{
		{list(0, 1, 0, none), 3, true},
		{list(0, 1, 0, none), 4, false},
		{list(0, 1, 0, none), 2, true},
		{list(0, 1, 0, none), -1, true},
		{list(0, 0, 1, none), 0, false},
		{list(0, none, 0, 1), 3, true},
		{list(0, none, 1, 1), 0, false},
		{list(none, 0, 0, 1), 3, true},
		{list(none, none, none, none), 0, true},
		{list(none, none, none, none), 1, false},
		{list(0, 1, 0), 0, false},
		{list(0, 1, 0, none, none), 0, false},
		{nil, 0, false},
		{list(0, 1, 2, none), 0, false},
		{list(0, 1, -2, none), 0, false},
	} {
		if is := lend.ProvePlan(h, l, x.plan, x.many); is != x.want {
			t.Errorf("ProvePlan of %v, %d: %v", x.plan, x.many, is)
		}
	}
	if !lend.ProvePlan(house(0), nil, nil, 0) || lend.ProvePlan(house(0), nil, nil, 1) || lend.ProvePlan(house(0), l[:1], list(0), 0) {
		t.Error("ProvePlan without lanes")
	}
}

// P6.2: marks of which there are none, many, and at both ends of groups.
func TestBound(t *testing.T) {
	l := groups(group(3, 4, 6), stay(7, 7), stay(0, 30))
	for _, x := range []struct {
		lanes int
		marks []int
		want  int
	}{
		{2, nil, 3},
		{0, nil, 3},
		{0, list(3, 7), 0},
		{2, list(2), 4},
		{2, list(3), 3},
		{2, list(6), 3},
		{2, list(7), 3},
		{2, list(8), 4},
		{1, list(6, 7), 2},
		{1, list(0, 30), 4},
		{5, hours(0, 30), 155},
		{0, hours(0, 30), 0},
	} {
		if n := mustBound(t, house(x.lanes), l, x.marks); n != x.want {
			t.Errorf("Bound of %v on %d lanes: %d, not %d", x.marks, x.lanes, n, x.want)
		}
	}
	if n := mustBound(t, house(3), nil, list(4, 9)); n != 6 {
		t.Errorf("Bound without groups: %d", n)
	}
}

// P6.3: the first hour, then the least lane.
func TestLater(t *testing.T) {
	for _, x := range []struct {
		lanes      int
		l          []lend.Group
		plan       []int
		group      int
		lane, hour int
		ok         bool
	}{
		// At its own hour, on the least lane.
		{3, groups(stay(4, 5), stay(2, 3)), list(none, none), 0, 0, 4, true},
		{3, groups(stay(4, 5), stay(2, 3)), list(none, 0), 0, 0, 4, true},
		{3, groups(stay(4, 5), stay(2, 4)), list(none, 0), 0, 1, 4, true},
		{3, groups(stay(4, 5), stay(5, 6)), list(none, 0), 0, 1, 4, true},
		{3, groups(stay(4, 5), stay(6, 6)), list(none, 0), 0, 0, 4, true},
		// Not before its own hour, however long the lane is empty.
		{1, groups(stay(9, 9)), list(none), 0, 0, 9, true},
		// The first hour counts more than the lane.
		{2, groups(stay(1, 3), stay(0, 4), stay(0, 2)), list(none, 0, 1), 0, 1, 3, true},
		{2, groups(stay(1, 3), stay(0, 2), stay(0, 4)), list(none, 0, 1), 0, 0, 3, true},
		// A gap must be as long as the group may stay.
		{1, groups(group(1, 1, 3), stay(0, 1), stay(4, 6)), list(none, 0, 0), 0, 0, 7, true},
		{1, groups(group(1, 1, 3), stay(0, 1), stay(5, 6)), list(none, 0, 0), 0, 0, 2, true},
		// The lane is kept for groups that may stay, too.
		{1, groups(stay(1, 1), group(0, 0, 8)), list(none, 0), 0, 0, 9, true},
		// Groups that are not served keep no lane.
		{1, groups(stay(1, 1), stay(0, 8)), list(none, none), 0, 0, 1, true},
		// Up to MaxLendHour, and not behind it.
		{1, groups(stay(5, 7), stay(5, 27)), list(none, 0), 0, 0, 28, true},
		{1, groups(stay(5, 7), stay(5, 28)), list(none, 0), 0, 0, 0, false},
		{1, groups(stay(30, 30), stay(29, 29)), list(none, 0), 0, 0, 30, true},
		{1, groups(stay(30, 30), stay(30, 30)), list(none, 0), 0, 0, 0, false},
		{2, groups(stay(30, 30), stay(30, 30)), list(none, 0), 0, 1, 30, true},
		{2, groups(group(0, 0, 30), stay(30, 30)), list(none, 0), 0, 1, 0, true},
		{0, groups(stay(0, 0)), list(none), 0, 0, 0, false},
	} {
		lane, hour, ok := laterOf(t, house(x.lanes), x.l, x.plan, x.group)
		if lane != x.lane || hour != x.hour || ok != x.ok {
			t.Errorf("Later of %v by %v on %d lanes: %d, %d, %v", x.l, x.plan, x.lanes, lane, hour, ok)
		}
	}
}

// P6.4, P6.5: shoes, and the sizes that tell why there are too few.
func TestShoes(t *testing.T) {
	for _, x := range []struct {
		h    lend.House
		feet []int
		bare int
	}{
		{house(0), nil, 0},
		{house(0), list(0, 5, 9), 3},
		{house(0, 1), list(0), 0},
		{house(0, 0, 1), list(0), 0},
		{house(0, 0, 0, 1), list(0), 1},
		{house(0, 1), list(1), 1},
		// The greatest size has no next one, and no way back to the first one.
		{house(0, 5, 5, 5, 5, 5, 5, 5, 5, 5, 0), list(9, 9), 2},
		{house(0, 0, 0, 0, 0, 0, 0, 0, 0, 0, 1), list(9, 9, 8), 2},
		{house(0, 0, 0, 0, 0, 0, 0, 0, 0, 1, 1), list(9, 8), 0},
		// Feet give way to others, whatever the order is.
		{house(0, 1, 1), list(0, 1), 0},
		{house(0, 1, 1), list(1, 0), 0},
		{house(0, 1, 1, 1), list(1, 0, 0), 0},
		{house(0, 1, 1, 1), list(0, 1, 0, 1), 1},
		{house(0, 0, 1, 1, 1), list(2, 1, 0), 0},
		// Who has no shoes is not of the size alone that has no pairs.
		{house(0, 1, 0, 1), list(0, 0, 1, 1), 2},
		{house(0, 2, 1, 0), list(0, 0, 0, 0, 1), 2},
		// As many feet as may be.
		{house(0, 20, 20), same(48, 0), 8},
		{house(0, 20, 20, 20, 20), append(same(24, 0), same(24, 2)...), 0},
		{house(5, same(10, 20)...), same(48, 9), 28},
	} {
		worn, sizes := mustFit(t, x.h, x.feet), mustSizes(t, x.h, x.feet)
		if bareIn(worn) != x.bare || !isFitting(x.h, x.feet, worn) {
			t.Errorf("Fit of %v, %v: %v", x.h, x.feet, worn)
		}
		if n := mustLack(t, x.h, x.feet, sizes); n != x.bare || plainLack(x.h, x.feet, sizes) != x.bare {
			t.Errorf("Sizes of %v, %v: %v, which lack %d", x.h, x.feet, sizes, n)
		}
	}
}

// P6.5: what sizes lack.
func TestLack(t *testing.T) {
	h := house(1, 1, 0, 2, 0, 0, 0, 0, 0, 0, 1)
	feet := list(0, 0, 1, 1, 1, 1, 8, 9, 9, 5)
	for _, x := range []struct {
		sizes []int
		want  int
	}{
		{nil, 0},
		{list(0), 1},
		{list(1), 2},
		{list(0, 1), 3},
		{list(2), 0},
		{list(1, 2), 2},
		{list(8), 0},
		{list(9), 1},
		{list(8, 9), 2},
		{list(5), 1},
		{list(3, 5, 6), 1},
		{list(0, 1, 5, 8, 9), 6},
		{hours(0, 9), 6},
	} {
		if n := mustLack(t, h, feet, x.sizes); n != x.want {
			t.Errorf("Lack of %v: %d, not %d", x.sizes, n, x.want)
		}
	}
}

// P6.6: hours at which the shoes are too few for all who may be there.
func TestShort(t *testing.T) {
	one := house(3, 0, 1)
	for _, x := range []struct {
		h    lend.House
		l    []lend.Group
		plan []int
		want []int
	}{
		{one, nil, nil, nil},
		{one, groups(stay(0, 30)), list(0), nil},
		{one, groups(group(2, 4, 4, 0)), list(0), nil},
		{one, groups(group(2, 4, 4, 0, 1)), list(0), hours(2, 4)},
		{one, groups(group(2, 4, 4, 0, 1)), list(none), nil},
		// At hours at which both may be there: also at those at which they may have gone.
		{one, groups(group(2, 2, 6, 0), group(4, 4, 9, 1)), list(0, 1), hours(4, 6)},
		{one, groups(group(2, 2, 6, 0), group(4, 4, 9, 1)), list(0, none), nil},
		{one, groups(group(2, 2, 6, 0), group(7, 7, 9, 1)), list(0, 0), nil},
		// Some hours between, and at both ends.
		{one, groups(group(0, 0, 0, 9), group(3, 3, 3, 0), group(3, 3, 3, 1), group(0, 5, 5), group(30, 30, 30, 5)), list(0, 0, 1, 2, 0), list(0, 3, 30)},
		{house(1), groups(group(0, 0, 30, 3)), list(0), hours(0, 30)},
		{house(1), groups(stay(0, 30)), list(0), nil},
	} {
		if got := mustShort(t, x.h, x.l, x.plan); !slices.Equal(got, x.want) {
			t.Errorf("Short of %v by %v: %v, not %v", x.l, x.plan, got, x.want)
		}
	}
}

// P6.1: what a house and groups may be, at their edges.
func TestCheckGroups(t *testing.T) {
	for _, h := range []lend.House{house(0), house(5, same(10, 20)...)} {
		for _, l := range [][]lend.Group{
			nil,
			groups(group(0, 0, 0), group(30, 30, 30, 0, 9), group(0, 30, 30), group(0, 0, 30), group(7, 8, 9, same(6, 9)...)),
			slices.Repeat(groups(group(0, 0, 30, 1, 2, 3, 4, 5, 6)), 8),
		} {
			if e := lend.CheckGroups(h, l); e != api.OK {
				t.Errorf("CheckGroups of %v, %v: %v", h, l, e)
			}
		}
	}
}
