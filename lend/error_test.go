package lend_test

import (
	"math"
	"math/rand"
	"reflect"
	"slices"
	"testing"

	"kingpin/api"
	"kingpin/lend"
)

// asked is all that calls may be given.
type asked struct {
	lend.House
	l                        []lend.Group
	plan, marks, feet, sizes []int
	group, many              int
}

type answer struct {
	e      api.Errno
	result any
}

func (x asked) calls() map[string]answer {
	plan, e1 := lend.Serve(x.House, x.l)
	marks, e2 := lend.Marks(x.House, x.l)
	bound, e3 := lend.Bound(x.House, x.l, x.marks)
	lane, hour, e4 := lend.Later(x.House, x.l, x.plan, x.group)
	worn, e5 := lend.Fit(x.House, x.feet)
	lack, e6 := lend.Lack(x.House, x.feet, x.sizes)
	sizes, e7 := lend.Sizes(x.House, x.feet)
	short, e8 := lend.Short(x.House, x.l, x.plan)
	return map[string]answer{
		"CheckGroups": {lend.CheckGroups(x.House, x.l), []int(nil)},
		"Serve":       {e1, plan},
		"Marks":       {e2, marks},
		"Bound":       {e3, bound},
		"Later":       {e4, [2]int{lane, hour}},
		"Fit":         {e5, worn},
		"Lack":        {e6, lack},
		"Sizes":       {e7, sizes},
		"Short":       {e8, short},
		"ProvePlan":   {api.OK, lend.ProvePlan(x.House, x.l, x.plan, x.many)},
	}
}

func isNothing(result any) bool {
	switch x := result.(type) {
	case []int:
		return len(x) == 0
	case [2]int:
		return x == [2]int{}
	}
	return result == 0
}

// wantErrors asks all calls: the named ones have the error, and no result; the others have none.
func (x asked) wantErrors(t *testing.T, want api.Errno, calls ...string) {
	t.Helper()
	x.wantAll(t, map[api.Errno][]string{want: calls})
}

// wantAll is for several errors at once.
func (x asked) wantAll(t *testing.T, want map[api.Errno][]string) {
	t.Helper()
	for call, a := range x.calls() {
		expected := api.OK
		for e, calls := range want {
			if slices.Contains(calls, call) {
				expected = e
			}
		}
		if a.e != expected {
			t.Errorf("%s of %v: %v, not %v", call, x, a.e, expected)
		}
		if a.e != api.OK && !isNothing(a.result) {
			t.Errorf("%s of %v: %v with %v", call, x, a.result, a.e)
		}
	}
}

var (
	groupCalls = []string{"CheckGroups", "Serve", "Marks", "Bound", "Later", "Short"}
	feetCalls  = []string{"Fit", "Lack", "Sizes"}
	allCalls   = slices.Concat(groupCalls, feetCalls)
)

// good has no error in any call, and its plan is proved.
func good() asked {
	h, l := example()
	return asked{h, l, list(0, 1, none, 0), list(3, 5), list(4, 4, 5, 5), list(4, 5), 2, 3}
}

// bad is a house with which nothing else is as it should be.
func bad(h lend.House) asked {
	return asked{h, make([]lend.Group, 9), list(7), list(5, 5), make([]int, 49), list(5, 5), -1, 0}
}

func edges() []int {
	return []int{math.MinInt, math.MinInt + 1, -2, -1, 31, 32, math.MaxInt - 1, math.MaxInt}
}

func badHouses() []lend.House {
	list := []lend.House{{}, {Lanes: 1}, {Lanes: 1, Shoes: make([]int, 9)}, {Lanes: 1, Shoes: make([]int, 11)}, house(6), house(1, 21), house(1, 0, 0, 0, 0, 0, 0, 0, 0, 0, 21)}
	for _, n := range edges() {
		list = append(list, house(n), house(1, n), house(1, 0, 0, 0, 0, 0, 0, 0, 0, 0, n))
	}
	return list
}

func badGroups() []lend.Group {
	list := []lend.Group{group(3, 2, 3), group(3, 5, 4), group(3, 2, 2), group(3, 4, 3), group(3, 4, 4, 10), group(3, 4, 4, 0, 1, 2, 3, 4, 10), group(0, 31, 30), group(30, 30, 31), group(math.MaxInt, math.MinInt, math.MaxInt)}
	for _, n := range edges() {
		list = append(list, group(n, 5, 5), group(n, n, n), group(0, 0, n), group(0, n, n), group(3, 4, 4, n), group(3, 4, 4, 0, n))
		if n < 0 {
			list = append(list, group(0, n, 5))
		}
	}
	return list
}

// The rows that begin with "all", R1 and R2: the first question that applies, and no other results.
func TestErrors(t *testing.T) {
	good().wantErrors(t, api.OK)
	for _, h := range badHouses() {
		x := good()
		x.House = h
		x.wantErrors(t, api.ErrArg, allCalls...)
		bad(h).wantErrors(t, api.ErrArg, allCalls...)
		if lend.ProvePlan(h, nil, nil, 0) || lend.ProvePlan(h, x.l, same(4, none), 0) {
			t.Errorf("ProvePlan of %v: true", h)
		}
	}
	for _, g := range append(badGroups(), stay(0, 0)) {
		// Also if a group is not valid otherwise, and all else neither.
		x := bad(house(2))
		x.l[3] = g
		x.wantErrors(t, api.ErrLimit, allCalls...)
		x.l = groups(g, group(0, 0, 0, make([]int, 7)...))
		x.wantErrors(t, api.ErrLimit, allCalls...)
		x.l = groups(group(9, 8, 7, make([]int, 7)...), g)
		x.wantErrors(t, api.ErrLimit, allCalls...)
	}
	for _, g := range badGroups() {
		x := bad(house(2))
		x.l, x.feet = groups(stay(0, 0), g), append(make([]int, 47), 10)
		x.wantAll(t, map[api.Errno][]string{api.ErrArg: groupCalls, api.ErrRange: feetCalls})
		y := good()
		y.l = append(y.l[:3], g)
		y.wantErrors(t, api.ErrArg, groupCalls...)
		if lend.ProvePlan(y.House, y.l, same(4, none), 0) {
			t.Errorf("ProvePlan of %v: true", y.l)
		}
	}
	for _, n := range append(edges(), 10) {
		x := good()
		x.feet, x.sizes = list(4, n), list(5, 5)
		x.wantErrors(t, api.ErrRange, feetCalls...)
		x.feet = append(make([]int, 48), n)
		x.wantErrors(t, api.ErrLimit, feetCalls...)
	}
}

// The rows of Bound and Lack: lists that rise, of hours and of sizes.
func TestListErrors(t *testing.T) {
	for _, n := range edges() {
		for _, marks := range [][]int{list(n), list(0, n), list(n, 30)} {
			x := good()
			x.marks = marks
			x.wantErrors(t, api.ErrRange, "Bound")
		}
	}
	for _, marks := range [][]int{list(3, 3), list(5, 3), list(0, 5, 4), list(0, 0, 4), make([]int, 32), hours(0, 31)} {
		x := good()
		x.marks = marks
		x.wantErrors(t, api.ErrRange, "Bound")
	}
	for _, n := range append(edges(), 10) {
		for _, sizes := range [][]int{list(n), list(0, n), list(n, 9)} {
			x := good()
			x.sizes = sizes
			x.wantErrors(t, api.ErrRange, "Lack")
		}
	}
	for _, sizes := range [][]int{list(3, 3), list(5, 3), list(0, 5, 4), list(0, 0, 4), make([]int, 11), hours(0, 10)} {
		x := good()
		x.sizes = sizes
		x.wantErrors(t, api.ErrRange, "Lack")
	}
}

// The rows of Later and Short: a lane or None for each group, and a group that there is, before what is right, and who is served.
func TestPlanErrors(t *testing.T) {
	for _, n := range append(edges(), 2, 5) {
		for _, plan := range [][]int{list(0, 1, none, n), list(n, 0, none, 0), list(0, 0, n, 0), list(0, 0, 0, none, n), list(0, 1, none), list(0, 0, 0), nil} {
			if n == none {
				plan = list(0, 0, none)
			}
			for _, group := range []int{2, 0, 4, -1} {
				x := good()
				x.plan, x.group = plan, group
				x.wantErrors(t, api.ErrRange, "Later", "Short")
				if lend.ProvePlan(x.House, x.l, plan, math.MinInt) {
					t.Errorf("ProvePlan of %v: true", plan)
				}
			}
		}
	}
	for _, n := range append(edges(), 4) {
		x := good()
		x.group = n
		x.wantErrors(t, api.ErrRange, "Later")
		// There is no such group: this comes before a plan that is not right.
		x.plan = list(0, 0, none, 0)
		x.wantAll(t, map[api.Errno][]string{api.ErrRange: {"Later"}, api.ErrState: {"Short"}})
	}
	for _, group := range []int{0, 1, 3} {
		x := good()
		x.group = group
		x.wantErrors(t, api.ErrState, "Later")
	}
	for _, plan := range [][]int{list(0, 0, none, none), list(1, none, 1, none), list(0, 1, 1, none), list(0, 1, 0, 0)} {
		for group := range 4 {
			x := good()
			x.plan, x.group = plan, group
			x.wantErrors(t, api.ErrState, "Later", "Short")
			if lend.ProvePlan(x.House, x.l, plan, math.MinInt) {
				t.Errorf("ProvePlan of %v: true", plan)
			}
		}
	}
	x := good()
	x.l[2].To.Hi = 30
	x.wantErrors(t, api.ErrNone, "Later")
	x.Lanes, x.plan = 0, same(4, none)
	x.wantErrors(t, api.ErrNone, "Later")
	x.l, x.plan, x.group = nil, nil, 0
	x.wantErrors(t, api.ErrRange, "Later")
}

// The number of ProvePlan may be any.
func TestAnyNumber(t *testing.T) {
	for _, n := range append(edges(), 0, 1, 2, 3, 4) {
		x := good()
		if is := lend.ProvePlan(x.House, x.l, x.plan, n); is != (n <= 3) {
			t.Errorf("ProvePlan of %d: %v", n, is)
		}
	}
}

// R3: nil and a list without elements are the same.
func TestEmpty(t *testing.T) {
	x := asked{House: house(2)}
	y := asked{House: house(2), l: groups(), plan: []int{}, marks: []int{}, feet: []int{}, sizes: []int{}}
	for _, z := range []asked{x, y} {
		z.wantErrors(t, api.ErrRange, "Later")
		for call, a := range z.calls() {
			if call != "ProvePlan" && !isNothing(a.result) {
				t.Errorf("%s of %v: %v", call, z, a.result)
			}
		}
		if !lend.ProvePlan(z.House, z.l, z.plan, 0) {
			t.Errorf("ProvePlan of %v: false", z)
		}
	}
	g := lend.Group{From: 1, To: lend.Range{Lo: 1, Hi: 1}, Feet: []int{}}
	if n := many(t, x.House, groups(g)); n != 1 {
		t.Errorf("Serve of %v: %d", g, n)
	}
}

// roomy has the list's elements with room behind them, which no call may use.
func roomy[T any](list []T) []T { return append(make([]T, 0, len(list)+4), list...) }

// copied shares no memory with the arguments, and has what is in their room, too.
func (x asked) copied() asked {
	y := x
	for _, list := range []*[]int{&y.Shoes, &y.plan, &y.marks, &y.feet, &y.sizes} {
		*list = slices.Clone((*list)[:cap(*list)])
	}
	y.l = slices.Clone(x.l[:cap(x.l)])
	for i, g := range y.l {
		y.l[i].Feet = slices.Clone(g.Feet[:cap(g.Feet)])
	}
	return y
}

// R4: arguments are not written to, and results share no memory.
func TestMemory(t *testing.T) {
	x := good()
	x.Shoes, x.plan, x.marks, x.feet, x.sizes = roomy(x.Shoes), roomy(x.plan), roomy(x.marks), roomy(x.feet), roomy(x.sizes)
	x.l = roomy(x.l)
	for i, g := range x.l {
		x.l[i].Feet = roomy(g.Feet)
	}
	x.l[3].Feet = roomy(list(6, 6))
	before, first := x.copied(), x.calls()
	for _, a := range x.calls() {
		if list, ok := a.result.([]int); ok {
			for i := range list {
				list[i] = -7
			}
			_ = append(list, -7)
		}
	}
	if !reflect.DeepEqual(x.copied(), before) {
		t.Errorf("the arguments are %v behind the calls", x)
	}
	if again := x.calls(); !reflect.DeepEqual(again, first) {
		t.Errorf("the results are %v again, not %v", again, first)
	}
}

// P1 and the Rules' first lines: whatever the arguments are, each call returns, and returns the same again.
func TestAnyArguments(t *testing.T) {
	r := rand.New(rand.NewSource(21))
	more := append(edges(), 0, 1, 2, 3, 4, 5, 6, 9, 10, 20, 21, 30)
	change := func(numbers ...*int) {
		for _, n := range numbers {
			if r.Intn(20) == 0 {
				*n = more[r.Intn(len(more))]
			}
		}
	}
	changeAll := func(lists ...[]int) {
		for _, list := range lists {
			for i := range list {
				change(&list[i])
			}
		}
	}
	passed := 0
	for range 5000 {
		h, l := house(r.Intn(6), someShoes(r, 20)...), someGroups(r, 9, 30)
		x := asked{h, l, somePlan(r, h, l), someFeet(r, 9), someFeet(r, 50), someFeet(r, 4), r.Intn(len(l) + 1), r.Intn(4)}
		slices.Sort(x.marks)
		slices.Sort(x.sizes)
		if r.Intn(3) > 0 {
			change(&x.Lanes, &x.group, &x.many)
			changeAll(x.Shoes, x.plan, x.marks, x.feet, x.sizes)
			for i := range x.l {
				change(&x.l[i].From, &x.l[i].To.Lo, &x.l[i].To.Hi)
				changeAll(x.l[i].Feet)
			}
		}
		before := x.copied()
		if first := x.calls(); !reflect.DeepEqual(first, x.calls()) {
			t.Fatalf("not the same again: %v", x)
		}
		if !reflect.DeepEqual(x.copied(), before) {
			t.Fatalf("written to: %v, not %v", x, before)
		}
		if lend.CheckGroups(x.House, x.l) == api.OK {
			passed++
		}
	}
	if passed < 1000 || passed > 4500 {
		t.Errorf("%d houses with groups are valid", passed)
	}
}
