package path_test

import (
	"math"
	"math/rand"
	"reflect"
	"slices"
	"testing"

	"kingpin/api"
	"kingpin/path"
)

// asked is all that calls may be given.
type asked struct {
	path.Lane
	start path.State
	turns []int
	row   int
	p     path.Pocket
}

type answer struct {
	e       api.Errno
	results []any
}

func (x asked) calls() map[string]answer {
	over, gutter, e1 := path.Play(x.Lane, x.start, x.turns)
	reached, lost, e2 := path.Reach(x.Lane, x.start, x.row)
	turn, e3 := path.Turn(x.Lane, x.start)
	verdict, e4 := path.Hits(x.Lane, x.start, x.p)
	hit, e5 := path.Shows(x.Lane, x.start, x.p, true)
	miss, e6 := path.Shows(x.Lane, x.start, x.p, false)
	aims, e7 := path.Aims(x.Lane, x.p)
	best, room, e8 := path.Best(x.Lane, x.p)
	return map[string]answer{
		"CheckLane":  {path.CheckLane(x.Lane), nil},
		"Play":       {e1, []any{over, gutter}},
		"Reach":      {e2, []any{reached, lost}},
		"Turn":       {e3, []any{turn}},
		"Hits":       {e4, []any{verdict}},
		"Shows":      {e5, []any{hit}},
		"Shows miss": {e6, []any{miss}},
		"Aims":       {e7, []any{aims}},
		"Best":       {e8, []any{best, room}},
	}
}

// wantErrors asks all calls: the named ones have the error, and no results; the others have none.
func (x asked) wantErrors(t *testing.T, want api.Errno, calls ...string) {
	t.Helper()
	for call, a := range x.calls() {
		expected := api.OK
		if slices.Contains(calls, call) {
			expected = want
		}
		if a.e != expected {
			t.Errorf("%s of %v: %v, not %v", call, x, a.e, expected)
		}
		for _, result := range a.results {
			if v := reflect.ValueOf(result); a.e != api.OK && !v.IsZero() && (v.Kind() != reflect.Slice || v.Len() > 0) {
				t.Errorf("%s of %v: %v with %v", call, x, result, a.e)
			}
		}
	}
}

var (
	allCalls   = []string{"CheckLane", "Play", "Reach", "Turn", "Hits", "Shows", "Shows miss", "Aims", "Best"}
	withStart  = []string{"Play", "Reach", "Turn", "Hits", "Shows", "Shows miss"}
	withPocket = []string{"Hits", "Shows", "Shows miss", "Aims", "Best"}
)

// good has no error in any call: the ball may hit, and some starts surely do.
func good() asked {
	return asked{oiled(), at(10, 2), []int{-1, -1, -1, -1}, 4, pocket(9, 15, -3, -1)}
}

func badLanes() []path.Lane {
	list := []path.Lane{{}, {Boards: 20, Rows: 5}}
	for _, n := range []int{math.MinInt, -1, 0, 41, math.MaxInt} {
		boards, rows := oiled(), oiled()
		boards.Boards, rows.Rows = n, n
		list = append(list, boards, rows)
	}
	for _, level := range []int{math.MinInt, -1, 2, 3, math.MaxInt} {
		list = append(list, with(oiled(), patch(to(0, 0), to(1, 1), level)))
	}
	for _, bad := range []path.Range{to(1, 0), to(-4, 1), to(1, 21), to(math.MinInt, math.MaxInt), to(math.MaxInt, math.MinInt), to(math.MinInt, math.MinInt), to(math.MaxInt, math.MaxInt)} {
		hooks := oiled()
		hooks.Hooks[1] = bad
		list = append(list, hooks, with(oiled(), patch(bad, to(1, 1), 0)), with(oiled(), patch(to(0, 0), bad, 0)))
	}
	return list
}

func badStarts() []path.State {
	var list []path.State
	for _, n := range []int{math.MinInt, math.MinInt + 1, -6, 21, math.MaxInt - 1, math.MaxInt} {
		list = append(list, at(n, 0), at(12, n))
	}
	return append(list, at(0, 0), at(-1, 0), at(12, 6), at(0, 6))
}

// The section Errors, R1 and R2: the first question that applies, and no other results.
func TestErrors(t *testing.T) {
	good().wantErrors(t, api.OK)
	x := good()
	x.Lane = with(x.Lane, make([]path.Patch, 8)...)
	x.wantErrors(t, api.ErrLimit, allCalls...)
	for _, l := range append(badLanes(), oiled()) {
		// Also if the lane is not valid otherwise, and all else neither.
		x := asked{Lane: l, start: at(0, 0), turns: []int{9}, row: -1, p: pocket(1, 0, 1, 0)}
		x.Patches = append(slices.Clone(l.Patches), make([]path.Patch, 9)...)
		x.wantErrors(t, api.ErrLimit, allCalls...)
		x.Lane = l
		x.Hooks = append(slices.Clone(l.Hooks), make([]path.Range, 5)...)
		x.wantErrors(t, api.ErrLimit, allCalls...)
	}
	for _, l := range badLanes() {
		x := good()
		x.Lane = l
		x.wantErrors(t, api.ErrArg, allCalls...)
		asked{Lane: l, start: at(0, 0), turns: []int{9}, row: -1, p: pocket(1, 0, 1, 0)}.wantErrors(t, api.ErrArg, allCalls...)
	}
	for _, start := range badStarts() {
		x := good()
		x.start = start
		x.wantErrors(t, api.ErrRange, withStart...)
	}
	for _, p := range []path.Pocket{pocket(1, 0, -3, -1), pocket(9, 15, 1, 0), pocket(math.MaxInt, math.MinInt, 0, 0), pocket(0, 0, math.MaxInt, math.MinInt), pocket(1, 0, 1, 0)} {
		x := good()
		x.p = p
		x.wantErrors(t, api.ErrRange, withPocket...)
	}
	for _, row := range []int{math.MinInt, -1, 5, 6, 12, math.MaxInt} {
		x := good()
		x.row = row
		x.wantErrors(t, api.ErrRange, "Reach")
	}
}

// P4.1: turns that are no truth of the ball: another number, or too few, or too many.
func TestNoTruth(t *testing.T) {
	for _, turns := range [][]int{nil, {-1}, {-1, -1, -1}, {-1, -1, -1, -1, -1}, make([]int, 5000), {-2, -1, -1, -1}, {1, -1, -1, -1}, {-1, 0, -1, -1}, {-1, -1, -1, -2}, {-1, -1, -1, 0}, {math.MinInt, -1, -1, -1}, {math.MaxInt, -1, -1, -1}, {0, -1, math.MaxInt, -1}} {
		x := good()
		x.turns = turns
		x.wantErrors(t, api.ErrRange, "Play")
	}
	// Behind the gutter, and behind the last row, nothing turns; and it turns by the level where it is, not by another.
	for _, x := range []struct {
		l     path.Lane
		start path.State
		turns []int
	}{
		{oiled(), at(2, -3), []int{0, -1}}, {oiled(), at(2, -3), nil}, {oiled(), at(4, 0), []int{-1, -1}}, {oiled(), at(4, 0), []int{-1, -1, -1, -1}}, {lane(1, 1, to(0, 0)), at(1, 0), []int{0}},
		{with(lane(9, 2, to(0, 0), to(1, 1)), patch(to(0, 0), to(3, 3), 1)), at(3, 0), []int{0}}, {with(lane(9, 2, to(0, 0), to(1, 1)), patch(to(0, 0), to(3, 3), 1)), at(4, 0), []int{1}}, {with(lane(9, 2, to(0, 0), to(1, 1)), patch(to(1, 1), to(3, 3), 1)), at(3, 0), []int{1}},
	} {
		if over, gutter, e := path.Play(x.l, x.start, x.turns); e != api.ErrRange || len(over) > 0 || gutter {
			t.Errorf("Play of %v, %v, %v: %v, %v, %v", x.l, x.start, x.turns, over, gutter, e)
		}
	}
}

// For Shows and Best alone: there is nothing to show, or no start that is sure.
func TestNothingToShow(t *testing.T) {
	x := good()
	x.start = at(12, 2)
	x.wantErrors(t, api.ErrNone, "Shows miss")
	x.start = at(5, 0)
	x.turns = []int{-1, -1, -1}
	x.wantErrors(t, api.ErrNone, "Shows")
	x = good()
	x.p = pocket(11, 14, -3, -1)
	x.wantErrors(t, api.ErrFail, "Best")
}

// R3: nil and a list without elements are the same.
func TestEmpty(t *testing.T) {
	x := asked{Lane: lane(9, 1, to(-1, 1)), start: at(5, 0), p: pocket(1, 9, -1, 1)}
	y := x
	y.Patches, y.turns = []path.Patch{}, []int{}
	for _, z := range []asked{x, y} {
		z.wantErrors(t, api.ErrNone, "Shows miss")
	}
	y.Hooks = []path.Range{}
	y.wantErrors(t, api.ErrArg, allCalls...)
	if aims, best := mustAims(t, x.Lane, x.p), mustAims(t, with(x.Lane), x.p); !slices.Equal(aims, best) || len(aims) != 27 {
		t.Errorf("Aims: %v, %v", aims, best)
	}
}

// R4: arguments are not written to, and results share no memory.
func TestMemory(t *testing.T) {
	x := good()
	x.Patches = append(make([]path.Patch, 0, 9), x.Patches...)
	x.Hooks = append(make([]path.Range, 0, 9), x.Hooks...)
	x.turns = append(make([]int, 0, 9), x.turns...)
	patches, hooks, turns := slices.Clone(x.Patches[:9]), slices.Clone(x.Hooks[:9]), slices.Clone(x.turns[:9])
	first := x.calls()
	for _, a := range x.calls() {
		for _, result := range a.results {
			switch list := result.(type) {
			case []int:
				for i := range list {
					list[i] = -7
				}
				_ = append(list, -7)
			case []path.State:
				for i := range list {
					list[i] = at(-7, -7)
				}
				_ = append(list, at(-7, -7))
			}
		}
	}
	if !slices.Equal(x.Patches[:9], patches) || !slices.Equal(x.Hooks[:9], hooks) || !slices.Equal(x.turns[:9], turns) {
		t.Errorf("the arguments are %v behind the calls", x)
	}
	if again := x.calls(); !reflect.DeepEqual(again, first) {
		t.Errorf("the results are %v again, not %v", again, first)
	}
}

// P1 and the Rules' first lines: whatever the arguments are, each call returns, and returns the same again.
func TestAnyArguments(t *testing.T) {
	r := rand.New(rand.NewSource(21))
	edges := []int{math.MinInt, math.MinInt + 1, -6, -5, -4, -3, -1, 0, 1, 2, 3, 4, 5, 6, 11, 12, 13, 39, 40, 41, math.MaxInt - 1, math.MaxInt}
	number := func(usual int) int {
		if r.Intn(8) > 0 {
			return usual
		}
		return edges[r.Intn(len(edges))]
	}
	numbers := func(usual path.Range) path.Range { return to(number(usual.Lo), number(usual.Hi)) }
	passed := 0
	for range 5000 {
		l := someLane(r, 40, 12, 6)
		x := asked{l, someStart(r, l), nil, number(r.Intn(l.Rows)), somePocket(r, l)}
		for range r.Intn(13) {
			x.turns = append(x.turns, number(r.Intn(7)-3))
		}
		if r.Intn(3) > 0 {
			x.Boards, x.Rows, x.start = number(l.Boards), number(l.Rows), at(number(x.start.Board), number(x.start.Dir))
			x.p = path.Pocket{Boards: numbers(x.p.Boards), Dirs: numbers(x.p.Dirs)}
			for i := range x.Hooks {
				x.Hooks[i] = numbers(x.Hooks[i])
			}
			for i, p := range x.Patches {
				x.Patches[i] = patch(numbers(p.Rows), numbers(p.Boards), number(p.Level))
			}
		}
		before := x
		before.Hooks, before.Patches, before.turns = slices.Clone(x.Hooks), slices.Clone(x.Patches), slices.Clone(x.turns)
		if !reflect.DeepEqual(x.calls(), before.calls()) {
			t.Fatalf("not the same again: %v", x)
		}
		if !reflect.DeepEqual(x, before) {
			t.Fatalf("written to: %v, not %v", x, before)
		}
		if path.CheckLane(x.Lane) == api.OK {
			passed++
		}
	}
	if passed < 1000 || passed > 4500 {
		t.Errorf("%d lanes are valid", passed)
	}
}
