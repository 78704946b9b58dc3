package lend_test

import (
	"math/rand"
	"slices"
	"testing"

	"kingpin/lend"
)

// some visits houses and groups by chance.
func some(seed int64, times, lanes, many, last int, visit func(r *rand.Rand, h lend.House, l []lend.Group)) {
	r := rand.New(rand.NewSource(seed))
	for range times {
		visit(r, house(r.Intn(lanes+1), someShoes(r, r.Intn(4))...), someGroups(r, many, last))
	}
}

// P6.1, P6.2, P6.8: against all right plans, and all marks.
func TestAllPlans(t *testing.T) {
	var turnedAway, count [3]int
	some(1, 1500, 3, 6, 8, func(_ *rand.Rand, h lend.House, l []lend.Group) {
		want := plainMany(h, l)
		plan := mustServe(t, h, l)
		if servedBy(plan) != want || !isRight(h, l, plan) {
			t.Fatalf("Serve of %v, %v: %v, not %d", h, l, plan, want)
		}
		turnedAway[min(len(l)-want, 2)]++
		marks := mustMarks(t, h, l)
		if plainBound(h, l, marks) != want {
			t.Fatalf("Marks of %v, %v: %v, not %d", h, l, marks, want)
		}
		count[min(len(marks), 2)]++
		for marks := range sublists(9) {
			if n := mustBound(t, h, l, marks); n < want || n != plainBound(h, l, marks) {
				t.Fatalf("Bound of %v, %v, %v: %d", h, l, marks, n)
			}
		}
	})
	if slices.Min(turnedAway[:]) < 100 || slices.Min(count[:]) < 100 {
		t.Errorf("too few of some kind: %v, %v", turnedAway, count)
	}
}

// P6.1, P6.2: as many groups, lanes and hours as may be.
func TestManyPlans(t *testing.T) {
	var turnedAway [3]int
	r := rand.New(rand.NewSource(2))
	for range 60 {
		h, l := house(r.Intn(4)), someGroups(r, 8, 6)
		for len(l) < 7 {
			l = someGroups(r, 8, 6)
		}
		want := plainMany(h, l)
		if n := many(t, h, l); n != want {
			t.Fatalf("Serve of %v, %v: %d, not %d", h, l, n, want)
		}
		turnedAway[min(len(l)-want, 2)]++
	}
	if slices.Min(turnedAway[:]) < 3 {
		t.Errorf("too few of some kind: %v", turnedAway)
	}
}

// P6.8: what Serve and Marks return shows each other, at all hours and on all lanes; no marks by chance say less.
func TestNoMore(t *testing.T) {
	var turnedAway, count [4]int
	some(3, 20000, 5, 8, 30, func(r *rand.Rand, h lend.House, l []lend.Group) {
		plan, marks := mustServe(t, h, l), mustMarks(t, h, l)
		n := mustBound(t, h, l, marks)
		if !isRight(h, l, plan) || servedBy(plan) != n || plainBound(h, l, marks) != n {
			t.Fatalf("Serve, Marks of %v, %v: %v, %v", h, l, plan, marks)
		}
		if !lend.ProvePlan(h, l, plan, n) || lend.ProvePlan(h, l, plan, n+1) {
			t.Fatalf("ProvePlan of %v, %v, %v", h, l, plan)
		}
		turnedAway[min(len(l)-n, 3)]++
		count[min(len(marks), 3)]++
		var others []int
		for hour := range 31 {
			if r.Intn(12) == 0 {
				others = append(others, hour)
			}
		}
		if more := mustBound(t, h, l, others); more < n || more != plainBound(h, l, others) {
			t.Fatalf("Bound of %v, %v, %v: %d", h, l, others, more)
		}
	})
	if slices.Min(turnedAway[:]) < 100 || slices.Min(count[:]) < 100 {
		t.Errorf("too few of some kind: %v, %v", turnedAway, count)
	}
}

// truths visits all lists of last hours.
func truths(l []lend.Group, visit func(last []int)) {
	var last []int
	var next func()
	next = func() {
		if len(last) == len(l) {
			visit(last)
			return
		}
		to := l[len(last)].To
		for hour := to.Lo; hour <= to.Hi; hour++ {
			last = append(last, hour)
			next()
			last = last[:len(last)-1]
		}
	}
	next()
}

// twice tells whether a lane has two groups at an hour.
func twice(l []lend.Group, plan, last []int) bool {
	for i, a := range l {
		for j, b := range l[:i] {
			if plan[i] != none && plan[i] == plan[j] && a.From <= last[j] && b.From <= last[i] {
				return true
			}
		}
	}
	return false
}

// P6.7: ProvePlan takes the plans by which no lane has two groups at an hour, in any truth, and no others.
func TestNothingTwice(t *testing.T) {
	var count [2]int
	some(4, 400, 2, 4, 8, func(r *rand.Rand, h lend.House, l []lend.Group) {
		plan := make([]int, len(l))
		for i := range plan {
			plan[i] = r.Intn(h.Lanes+1) - 1
		}
		bad := false
		truths(l, func(last []int) {
			bad = bad || twice(l, plan, last)
			if twice(l, mustServe(t, h, l), last) {
				t.Fatalf("Serve of %v, %v: %v", h, l, mustServe(t, h, l))
			}
		})
		if is := lend.ProvePlan(h, l, plan, 0); is == bad {
			t.Fatalf("ProvePlan of %v, %v, %v: %v", h, l, plan, is)
		}
		if bad {
			count[1]++
		} else {
			count[0]++
		}
	})
	if slices.Min(count[:]) < 30 {
		t.Errorf("too few of some kind: %v", count)
	}
}

// P6.3, P6.12: the first hour at which the group can have any lane, by a right plan.
func TestLaterByChance(t *testing.T) {
	var count [4]int
	visit := func(r *rand.Rand, h lend.House, l []lend.Group) {
		plan := somePlan(r, h, l)
		for i, g := range l {
			if plan[i] != none {
				continue
			}
			lane, hour, ok := laterOf(t, h, l, plan, i)
			if wantLane, wantHour, want := plainLater(h, l, plan, i); lane != wantLane || hour != wantHour || ok != want {
				t.Fatalf("Later of %d of %v, %v, %v: %d, %d, %v, not %d, %d, %v", i, h, l, plan, lane, hour, ok, wantLane, wantHour, want)
			}
			switch {
			case !ok:
				hour = 31
				count[0]++
			case hour == g.From:
				count[1]++
			case lane == 0:
				count[2]++
			default:
				count[3]++
			}
			wantFirst(t, h, l, plan, i, lane, hour)
		}
	}
	some(5, 2000, 3, 6, 30, visit)
	some(13, 3000, 3, 8, 14, visit)
	if slices.Min(count[:]) < 100 {
		t.Errorf("too few of some kind: %v", count)
	}
}

// wantFirst asks ProvePlan about the group at each hour up to this one, on each lane: no plan but with the lane, or a greater one, at this hour is right.
func wantFirst(t *testing.T, h lend.House, l []lend.Group, plan []int, i, lane, hour int) {
	t.Helper()
	g := l[i]
	l, plan = slices.Clone(l), slices.Clone(plan)
	for at := g.From; at <= hour && at+g.To.Hi-g.From <= 30; at++ {
		l[i] = group(at, at+g.To.Lo-g.From, at+g.To.Hi-g.From)
		for plan[i] = 0; plan[i] < h.Lanes; plan[i]++ {
			is := lend.ProvePlan(h, l, plan, 0)
			if is && (at < hour || plan[i] < lane) || !is && at == hour && plan[i] == lane {
				t.Fatalf("Later of %d of %v: %d, %d; ProvePlan of %v, %v: %v", i, g, lane, hour, l, plan, is)
			}
		}
	}
}

// P6.4, P6.5, P6.9: against all fittings of a few feet.
func TestAllFittings(t *testing.T) {
	var count [4]int
	r := rand.New(rand.NewSource(6))
	for range 3000 {
		h, feet := house(0, someShoes(r, 1+r.Intn(2))...), someFeet(r, 8)
		want := plainBare(h, feet)
		if worn := mustFit(t, h, feet); bareIn(worn) != want || !isFitting(h, feet, worn) {
			t.Fatalf("Fit of %v, %v: %v, not %d", h, feet, worn, want)
		}
		count[min(want, 3)]++
	}
	if slices.Min(count[:]) < 100 {
		t.Errorf("too few of some kind: %v", count)
	}
}

// P6.9: of any feet, as many as may be: the sizes that lack the most show that no fitting is greater.
func TestFeet(t *testing.T) {
	var count [6]int
	r := rand.New(rand.NewSource(7))
	for range 1500 {
		h, feet := house(0, someShoes(r, r.Intn(21))...), someFeet(r, 48)
		if r.Intn(2) == 0 {
			for i := range feet {
				feet[i] = r.Intn(10)
			}
		}
		worn, sizes := mustFit(t, h, feet), mustSizes(t, h, feet)
		if !isFitting(h, feet, worn) {
			t.Fatalf("Fit of %v, %v: %v", h, feet, worn)
		}
		n := mustLack(t, h, feet, sizes)
		if n != bareIn(worn) || n != plainLack(h, feet, sizes) || n != plainMost(h, feet) {
			t.Fatalf("Sizes of %v, %v: %v, which lack %d; %v", h, feet, sizes, n, worn)
		}
		count[min(len(sizes), 5)]++
		for range 5 {
			var others []int
			for size := range 10 {
				if r.Intn(3) == 0 {
					others = append(others, size)
				}
			}
			if less := mustLack(t, h, feet, others); less > n || less != plainLack(h, feet, others) {
				t.Fatalf("Lack of %v, %v, %v: %d", h, feet, others, less)
			}
		}
	}
	if slices.Min(count[:]) < 30 {
		t.Errorf("too few of some kind: %v", count)
	}
}

// P6.6: against what any sizes of the feet lack that may be there.
func TestShortByChance(t *testing.T) {
	var count [2]int
	some(8, 150, 5, 8, 30, func(r *rand.Rand, h lend.House, l []lend.Group) {
		plan := somePlan(r, h, l)
		want := plainShort(h, l, plan)
		if got := mustShort(t, h, l, plan); !slices.Equal(got, want) {
			t.Fatalf("Short of %v, %v, %v: %v, not %v", h, l, plan, got, want)
		}
		count[min(len(want), 1)]++
	})
	if slices.Min(count[:]) < 30 {
		t.Errorf("too few of some kind: %v", count)
	}
}

// P6.10: more lanes, shorter stays, fewer groups.
func TestEasierLanes(t *testing.T) {
	var count [6]int
	some(9, 3000, 4, 8, 30, func(r *rand.Rand, h lend.House, l []lend.Group) {
		n := many(t, h, l)
		wide := h
		wide.Lanes++
		more := many(t, wide, l)
		if more < n {
			t.Fatalf("Serve of %v, %v: %d, with a lane more %d", h, l, n, more)
		}
		count[min(more-n, 1)]++
		for i, g := range l {
			less := many(t, h, slices.Delete(slices.Clone(l), i, i+1))
			if less > n || less < n-1 {
				t.Fatalf("Serve of %v, %v: %d, without %d: %d", h, l, n, i, less)
			}
			count[2+n-less]++
			if g.To.Lo == g.To.Hi {
				continue
			}
			short := slices.Clone(l)
			short[i].To.Hi = g.To.Lo + r.Intn(g.To.Hi-g.To.Lo)
			now := many(t, h, short)
			if now < n {
				t.Fatalf("Serve of %v, %v: %d, of %v %d", h, l, n, short, now)
			}
			count[4+min(now-n, 1)]++
		}
	})
	if slices.Min(count[:]) < 100 {
		t.Errorf("too few of some kind: %v", count)
	}
}

// P6.10: more pairs, fewer feet.
func TestEasierShoes(t *testing.T) {
	var count [4]int
	r := rand.New(rand.NewSource(10))
	for range 1000 {
		h, feet := house(0, someShoes(r, r.Intn(4))...), someFeet(r, 20)
		n := bare(t, h, feet)
		for size := range 10 {
			more := house(0, h.Shoes...)
			more.Shoes[size]++
			now := bare(t, more, feet)
			if now > n || now < n-1 {
				t.Fatalf("Fit of %v, %v: %d bare, with one pair of %d more %d", h, feet, n, size, now)
			}
			count[n-now]++
		}
		for i := range feet {
			now := bare(t, h, slices.Delete(slices.Clone(feet), i, i+1))
			if now > n || now < n-1 {
				t.Fatalf("Fit of %v, %v: %d bare, without the foot %d: %d", h, feet, n, i, now)
			}
			count[2+n-now]++
		}
	}
	if slices.Min(count[:]) < 100 {
		t.Errorf("too few of some kind: %v", count)
	}
}

// P6.11 and P7: in any order the same; so are the bound of marks, when a group can come, what sizes lack, and where a plan is short.
func TestOrder(t *testing.T) {
	some(11, 2000, 3, 8, 30, func(r *rand.Rand, h lend.House, l []lend.Group) {
		plan := somePlan(r, h, l)
		order := r.Perm(len(l))
		l2, plan2 := make([]lend.Group, len(l)), make([]int, len(l))
		for i, at := range order {
			l2[at], plan2[at] = l[i], plan[i]
			feet := slices.Clone(l[i].Feet)
			r.Shuffle(len(feet), func(a, b int) { feet[a], feet[b] = feet[b], feet[a] })
			l2[at].Feet = feet
			if bare(t, h, feet) != bare(t, h, l[i].Feet) || plainLack(h, l[i].Feet, mustSizes(t, h, feet)) != bare(t, h, feet) {
				t.Fatalf("Fit of %v, %v and %v", h, feet, l[i].Feet)
			}
		}
		if many(t, h, l) != many(t, h, l2) {
			t.Fatalf("Serve of %v, %v and %v", h, l, l2)
		}
		if marks := mustMarks(t, h, l); mustBound(t, h, l2, marks) != many(t, h, l) {
			t.Fatalf("Bound of %v, %v, %v", h, l2, marks)
		}
		if !slices.Equal(mustShort(t, h, l, plan), mustShort(t, h, l2, plan2)) {
			t.Fatalf("Short of %v, %v, %v and %v, %v", h, l, plan, l2, plan2)
		}
		for i, at := range order {
			if plan[i] != none {
				continue
			}
			lane, hour, ok := laterOf(t, h, l, plan, i)
			if lane2, hour2, ok2 := laterOf(t, h, l2, plan2, at); lane != lane2 || hour != hour2 || ok != ok2 {
				t.Fatalf("Later of %v, %v, %v, %d: %d, %d, %v, then %d, %d, %v", h, l, plan, i, lane, hour, ok, lane2, hour2, ok2)
			}
		}
	})
}

// P6.13: lanes for all groups, and pairs for all feet.
func TestWhole(t *testing.T) {
	r := rand.New(rand.NewSource(12))
	feetServed := 0
	for range 1000 {
		l := someGroups(r, 3, 30)
		feet := 0
		for _, g := range l {
			feet += len(g.Feet)
		}
		h := house(len(l), same(10, feet)...)
		plan := mustServe(t, h, l)
		if servedBy(plan) != len(l) || mustBound(t, h, l, mustMarks(t, h, l)) != len(l) {
			t.Fatalf("Serve of %v, %v: %v", h, l, plan)
		}
		if hours := mustShort(t, h, l, plan); len(hours) > 0 {
			t.Fatalf("Short of %v, %v, %v: %v", h, l, plan, hours)
		}
		some := someFeet(r, 20)
		full := house(0, same(10, len(some))...)
		if n := bare(t, full, some); n > 0 || len(mustSizes(t, full, some)) > 0 && mustLack(t, full, some, mustSizes(t, full, some)) > 0 {
			t.Fatalf("Fit of %v, %v: %d bare", full, some, n)
		}
		feetServed += feet
	}
	if feetServed < 1000 {
		t.Errorf("only %d feet", feetServed)
	}
}
