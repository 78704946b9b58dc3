package oil_test

import (
	"slices"
	"testing"

	"kingpin/api"
	"kingpin/oil"
)

func list(x ...int) []int { return x }

func lists(x ...[]int) [][]int { return x }

func to(low, high int) oil.Range { return oil.Range{Lo: low, Hi: high} }

func lane(wear oil.Range, carry int, fresh ...[]int) oil.Lane {
	return oil.Lane{Fresh: fresh, Wear: wear, Carry: carry}
}

func line(ball []int, need ...int) oil.Line { return oil.Line{Ball: ball, Need: need} }

// times is a list with the same element so many times.
func times[T any](n int, x T) []T { return slices.Repeat([]T{x}, n) }

func same(a, b [][]int) bool { return slices.EqualFunc(a, b, slices.Equal) }

func mustPlay(t *testing.T, l oil.Lane, balls, wear [][]int) [][]int {
	t.Helper()
	p, e := oil.Play(l, balls, wear)
	if e != api.OK {
		t.Fatalf("Play of %v, %v, %v: %v", l, balls, wear, e)
	}
	return p
}

func mustBounds(t *testing.T, l oil.Lane, balls [][]int) (least, most [][]int) {
	t.Helper()
	least, most, e := oil.Bounds(l, balls)
	if e != api.OK {
		t.Fatalf("Bounds of %v, %v: %v", l, balls, e)
	}
	return least, most
}

func mustPlayable(t *testing.T, l oil.Lane, balls [][]int, x oil.Line) bool {
	t.Helper()
	is, e := oil.Playable(l, balls, x)
	if e != api.OK {
		t.Fatalf("Playable of %v, %v, %v: %v", l, balls, x, e)
	}
	return is
}

func mustLasts(t *testing.T, l oil.Lane, x oil.Line) int {
	t.Helper()
	n, e := oil.Lasts(l, x)
	if e != api.OK {
		t.Fatalf("Lasts of %v, %v: %v", l, x, e)
	}
	return n
}

// planOf is the best plan, and false if none is right; ProvePlan must say so of it, too.
func planOf(t *testing.T, l oil.Lane, block []oil.Line) ([]int, bool) {
	t.Helper()
	plan, e := oil.Plan(l, block)
	if e != api.OK && (e != api.ErrFail || len(plan) > 0) || oil.ProvePlan(l, block, plan) != (e == api.OK) {
		t.Fatalf("Plan of %v, %v: %v, %v", l, block, plan, e)
	}
	return plan, e == api.OK
}

func wantPlay(t *testing.T, l oil.Lane, balls, wear [][]int, want ...[]int) {
	t.Helper()
	if p := mustPlay(t, l, balls, wear); !same(p, want) {
		t.Errorf("Play of %v, %v, %v: %v, not %v", l, balls, wear, p, want)
	}
}

func wantBounds(t *testing.T, l oil.Lane, balls, least, most [][]int) {
	t.Helper()
	if a, b := mustBounds(t, l, balls); !same(a, least) || !same(b, most) {
		t.Errorf("Bounds of %v, %v: %v, %v, not %v, %v", l, balls, a, b, least, most)
	}
}

func wantPlan(t *testing.T, l oil.Lane, block []oil.Line, want ...int) {
	t.Helper()
	if plan, right := planOf(t, l, block); !right || !slices.Equal(plan, want) {
		t.Errorf("Plan of %v, %v: %v, %v, not %v", l, block, plan, right, want)
	}
}

// chapters is the lane of the chapter's examples.
func chapters() oil.Lane {
	return lane(to(2, 5), 50, list(30, 20, 10), list(10, 20, 30), list(5, 5, 5))
}

// The chapter's examples.
func TestExamples(t *testing.T) {
	balls := lists(list(0, 0, 1), list(0, 1, 1))
	wantPlay(t, chapters(), balls, lists(list(2, 3, 4), list(5, 5, 5)), list(23, 20, 10), list(8, 17, 30), list(5, 0, 5))
	wantBounds(t, chapters(), balls, lists(list(20, 20, 10), list(6, 16, 30), list(5, 0, 5)), lists(list(26, 20, 10), list(10, 20, 30), list(5, 5, 5)))
	straight := list(0, 0, 0)
	if !mustPlayable(t, chapters(), balls, line(straight, 20, 6, 5)) || mustPlayable(t, chapters(), balls, line(straight, 21, 6, 5)) {
		t.Error("Playable behind both")
	}
	if n := mustLasts(t, chapters(), line(straight, 10, 0, 0)); n != 5 {
		t.Errorf("Lasts: %d", n)
	}
	wantPlan(t, chapters(), times(3, line(straight, 25, 0, 0)), 1)
	wantPlan(t, chapters(), times(4, line(straight, 25, 0, 0)), 2)
	// And the one of DOC.md: a cell with 30 that wears by 2 to 5 has from 20 to 26 behind two balls.
	wantBounds(t, lane(to(2, 5), 100, list(30)), times(2, list(0)), lists(list(20)), lists(list(26)))
}

// P10.1: by hand: ball by ball and row by row, over cells apart and the same ones.
func TestPlay(t *testing.T) {
	l := lane(to(1, 9), 50, list(50, 60), list(40, 30), list(20, 10))
	wantPlay(t, l, nil, nil, l.Fresh...)
	wantPlay(t, l, lists(list(0, 0, 0)), lists(list(1, 1, 1)), list(49, 60), list(39, 30), list(19, 10))
	wantPlay(t, l, lists(list(0, 1, 0)), lists(list(9, 1, 4)), list(41, 60), list(40, 33), list(16, 10))
	// The row before carries, whichever its board is; what is carried there is not carried on.
	wantPlay(t, l, lists(list(1, 0, 1)), lists(list(8, 2, 1)), list(50, 52), list(42, 30), list(20, 10))
	wantPlay(t, l, lists(list(1, 0, 1), list(1, 0, 0)), lists(list(8, 2, 1), list(2, 8, 2)), list(50, 50), list(35, 30), list(22, 10))
	wantPlay(t, l, lists(list(0, 0, 0), list(1, 1, 1)), lists(list(2, 4, 6), list(6, 4, 2)), list(48, 54), list(37, 29), list(16, 10))
	// Each ball has its own wear.
	wantPlay(t, l, times(3, list(0, 0, 0)), lists(list(1, 1, 1), list(3, 3, 3), list(5, 5, 5)), list(41, 60), list(34, 30), list(14, 10))
}

// P10.1: hundredths of what is carried are rounded down, ball by ball.
func TestCarry(t *testing.T) {
	for _, x := range []struct{ carry, wear, carried int }{
		{0, 9, 0}, {1, 9, 0}, {11, 9, 0}, {12, 9, 1}, {22, 9, 1}, {23, 9, 2}, {33, 3, 0}, {34, 3, 1}, {49, 2, 0}, {50, 1, 0}, {50, 2, 1}, {50, 3, 1}, {50, 9, 4}, {66, 3, 1}, {67, 3, 2}, {88, 9, 7}, {89, 9, 8},
		{99, 1, 0}, {99, 9, 8}, {100, 0, 0}, {100, 1, 1}, {100, 9, 9},
	} {
		l := lane(to(0, 9), x.carry, list(50), list(50))
		wantPlay(t, l, times(1, list(0, 0)), lists(list(x.wear, 0)), list(50-x.wear), list(50+x.carried))
		wantPlay(t, l, times(3, list(0, 0)), times(3, list(x.wear, 0)), list(50-3*x.wear), list(50+3*x.carried))
		l.Wear = to(x.wear, x.wear)
		wantPlay(t, l, times(2, list(0, 0)), times(2, list(x.wear, x.wear)), list(50-2*x.wear), list(50+2*x.carried-2*x.wear))
		bound := lists(list(50-2*x.wear), list(50+2*x.carried-2*x.wear))
		wantBounds(t, l, times(2, list(0, 0)), bound, bound)
	}
}

// P10.1: no oil above MaxOilLevel, which is asked before the ball wears, nor below 0, which is asked behind that.
func TestFullAndDry(t *testing.T) {
	l := lane(to(0, 9), 100, list(100), list(95))
	wantPlay(t, l, times(1, list(0, 0)), lists(list(9, 0)), list(91), list(100))
	wantPlay(t, l, times(1, list(0, 0)), lists(list(9, 2)), list(91), list(98))
	wantPlay(t, l, times(1, list(0, 0)), lists(list(9, 9)), list(91), list(91))
	wantPlay(t, l, times(1, list(0, 0)), lists(list(5, 9)), list(95), list(91))
	wantPlay(t, l, times(1, list(0, 0)), lists(list(4, 9)), list(96), list(90))
	wantPlay(t, l, times(2, list(0, 0)), lists(list(9, 1), list(9, 0)), list(82), list(100))
	wantPlay(t, l, times(2, list(0, 0)), lists(list(9, 1), list(9, 3)), list(82), list(97))
	l = lane(to(0, 9), 100, list(3), list(4))
	wantPlay(t, l, times(1, list(0, 0)), lists(list(9, 0)), list(0), list(13))
	wantPlay(t, l, times(1, list(0, 0)), lists(list(3, 7)), list(0), list(0))
	wantPlay(t, l, times(1, list(0, 0)), lists(list(2, 9)), list(1), list(0))
	wantPlay(t, l, times(1, list(0, 0)), lists(list(5, 8)), list(0), list(1))
	// Behind a cell that has got dry the next ball finds nothing, but what it carries along itself.
	wantPlay(t, l, times(2, list(0, 0)), lists(list(0, 9), list(4, 1)), list(0), list(3))
	wantPlay(t, l, times(2, list(0, 0)), lists(list(9, 9), list(9, 9)), list(0), list(4))
	wantPlay(t, lane(to(0, 9), 0, list(0), list(100)), times(1, list(0, 0)), lists(list(9, 0)), list(0), list(100))
}

// P10.1 to P10.5: a pattern of one row and one board.
func TestOneCell(t *testing.T) {
	for _, x := range []struct {
		oil, lasts int
		wear       oil.Range
	}{{0, 0, to(0, 9)}, {0, 0, to(0, 0)}, {1, 1, to(1, 1)}, {10, 10, to(0, 1)}, {10, 4, to(0, 3)}, {10, 2, to(9, 9)}, {9, 1, to(0, 9)}, {100, 12, to(0, 9)}, {100, 20, to(0, 5)}, {100, 20, to(0, 0)}, {20, 20, to(1, 1)}, {19, 19, to(1, 1)}, {1, 20, to(0, 0)}} {
		l := lane(x.wear, 100, list(x.oil))
		if e := oil.CheckLane(l); e != api.OK {
			t.Errorf("CheckLane of %v: %v", l, e)
		}
		for balls := range 21 {
			low, high := max(x.oil-balls*x.wear.Hi, 0), max(x.oil-balls*x.wear.Lo, 0)
			wantPlay(t, l, times(balls, list(0)), times(balls, list(x.wear.Hi)), list(low))
			wantPlay(t, l, times(balls, list(0)), times(balls, list(x.wear.Lo)), list(high))
			wantBounds(t, l, times(balls, list(0)), lists(list(low)), lists(list(high)))
			for need := range 101 {
				if is := mustPlayable(t, l, times(balls, list(0)), line(list(0), need)); is != (need <= low) {
					t.Errorf("Playable of %d in %v behind %d: %v", need, l, balls, is)
				}
			}
		}
		if n := mustLasts(t, l, line(list(0), 1)); n != x.lasts {
			t.Errorf("Lasts in %v: %d", l, n)
		}
		if n := mustLasts(t, l, line(list(0), 0)); n != 20 {
			t.Errorf("Lasts of a Need of 0 in %v: %d", l, n)
		}
	}
}

// P10.1 to P10.5: as many rows, boards and balls as may be.
func TestLargest(t *testing.T) {
	l := lane(to(0, 9), 100, times(8, times(12, 100))...)
	last, half := times(8, 11), list(0, 1, 2, 3, 4, 5, 6, 7)
	balls := append(times(10, last), times(10, half)...)
	want, low := times(8, times(12, 100)), times(8, times(12, 100))
	for row := range 8 {
		want[row], low[row] = slices.Clone(want[row]), slices.Clone(low[row])
		want[row][11], want[row][row] = 90, 90
		low[row][11], low[row][row] = 10, 10
	}
	// The oil of the first row wears by 1 with each ball; the others are filled up first, and then wear from 100.
	wear := times(20, list(1, 1, 1, 1, 1, 1, 1, 1))
	for row := 1; row < 8; row++ {
		want[row][11], want[row][row] = 99, 99
	}
	wantPlay(t, l, balls, wear, want...)
	wantBounds(t, l, balls, low, l.Fresh)
	if !mustPlayable(t, l, balls, line(last, times(8, 10)...)) || mustPlayable(t, l, balls, line(half, append(times(7, 10), 11)...)) {
		t.Errorf("Playable in %v", l)
	}
	if n := mustLasts(t, l, line(last, times(8, 19)...)); n != 10 {
		t.Errorf("Lasts in %v: %d", l, n)
	}
	wantPlan(t, l, times(20, line(last, times(8, 19)...)), 10)
	wantPlan(t, l, append(times(10, line(last, times(8, 19)...)), times(10, line(half, times(8, 19)...))...))
}

// P10.2: by hand: both bounds of neighbour cells need not be those of one truth.
func TestBounds(t *testing.T) {
	l := lane(to(1, 4), 100, list(50, 60), list(40, 30), list(20, 10))
	straight := list(0, 0, 0)
	wantBounds(t, l, nil, l.Fresh, l.Fresh)
	wantBounds(t, l, lists(straight), lists(list(46, 60), list(37, 30), list(17, 10)), lists(list(49, 60), list(43, 30), list(23, 10)))
	wantBounds(t, l, lists(straight, list(1, 0, 1)), lists(list(46, 56), list(34, 30), list(17, 7)), lists(list(49, 59), list(46, 30), list(23, 13)))
	l.Carry = 50
	wantBounds(t, l, lists(straight), lists(list(46, 60), list(36, 30), list(16, 10)), lists(list(49, 60), list(41, 30), list(21, 10)))
	l.Carry = 25
	wantBounds(t, l, times(3, straight), lists(list(38, 60), list(28, 30), list(8, 10)), lists(list(47, 60), list(40, 30), list(20, 10)))
	l.Wear, l.Carry = to(0, 0), 100
	wantBounds(t, l, times(20, straight), l.Fresh, l.Fresh)
	l.Wear = to(9, 9)
	wantBounds(t, l, times(20, straight), lists(list(0, 60), list(40, 30), list(20, 10)), lists(list(0, 60), list(40, 30), list(20, 10)))
	l.Wear = to(0, 9)
	wantBounds(t, l, times(3, straight), lists(list(23, 60), list(13, 30), list(0, 10)), lists(list(50, 60), list(67, 30), list(47, 10)))
	wantBounds(t, l, times(7, straight), lists(list(0, 60), list(0, 30), list(0, 10)), lists(list(50, 60), list(100, 30), list(83, 10)))
	// What is full is worn from 100 on, what is dry is filled from 0 on.
	wantBounds(t, lane(to(3, 5), 100, list(9), list(98)), lists(list(0, 0)), lists(list(4), list(95)), lists(list(6), list(97)))
	wantBounds(t, lane(to(3, 5), 100, list(4), list(1)), lists(list(0, 0)), lists(list(0), list(0)), lists(list(1), list(3)))
	wantBounds(t, lane(to(3, 5), 100, list(4), list(1)), times(2, list(0, 0)), lists(list(0), list(0)), lists(list(0), list(5)))
}

// P10.3: by hand: each row has its Need, and no cell is asked for over which the ball does not go.
func TestPlayable(t *testing.T) {
	l := lane(to(1, 4), 100, list(50, 0), list(40, 0), list(20, 0))
	straight := list(0, 0, 0)
	for _, x := range []struct {
		balls [][]int
		line  oil.Line
		want  bool
	}{
		{nil, line(straight, 50, 40, 20), true}, {nil, line(straight, 51, 40, 20), false}, {nil, line(straight, 50, 41, 20), false}, {nil, line(straight, 50, 40, 21), false}, {nil, line(straight, 100, 100, 100), false},
		{nil, line(list(1, 1, 1), 0, 0, 0), true}, {nil, line(list(0, 1, 0), 50, 0, 20), true}, {nil, line(list(0, 1, 0), 50, 1, 20), false}, {nil, line(list(0, 0, 1), 50, 40, 0), true}, {nil, line(list(1, 0, 0), 1, 0, 0), false},
		{times(1, straight), line(straight, 46, 37, 17), true}, {times(1, straight), line(straight, 47, 0, 0), false}, {times(1, straight), line(straight, 0, 38, 0), false}, {times(1, straight), line(straight, 0, 0, 18), false},
		{times(3, straight), line(straight, 38, 31, 11), true}, {times(3, straight), line(straight, 38, 31, 12), false}, {times(3, straight), line(list(1, 0, 1), 0, 31, 0), true}, {times(3, straight), line(list(1, 0, 1), 0, 32, 0), false},
		{times(3, list(1, 1, 1)), line(straight, 50, 40, 20), true}, {lists(straight, list(1, 0, 1)), line(straight, 46, 34, 17), true}, {lists(straight, list(1, 0, 1)), line(straight, 46, 35, 17), false},
		{times(20, straight), line(straight, 0, 0, 0), true}, {times(20, straight), line(straight, 1, 0, 0), false}, {times(12, straight), line(straight, 2, 4, 0), true}, {times(12, straight), line(straight, 3, 4, 0), false},
	} {
		if is := mustPlayable(t, l, x.balls, x.line); is != x.want {
			t.Errorf("Playable of %v behind %v: %v", x.line, x.balls, is)
		}
	}
	// One truth lacks oil in the one row, another one in the other row, and each of them is enough.
	both := lane(to(0, 9), 100, list(20), list(20))
	if mustPlayable(t, both, times(1, list(0, 0)), line(list(0, 0), 12, 0)) || mustPlayable(t, both, times(1, list(0, 0)), line(list(0, 0), 0, 12)) || !mustPlayable(t, both, times(1, list(0, 0)), line(list(0, 0), 11, 11)) {
		t.Errorf("Playable in %v", both)
	}
}

// P10.4: by hand: the first lack ends it, in whichever row it is; no line lasts more than MaxOilBalls.
func TestLasts(t *testing.T) {
	l := lane(to(1, 4), 100, list(50, 0), list(40, 0), list(20, 0))
	straight := list(0, 0, 0)
	for _, x := range []struct {
		line oil.Line
		want int
	}{
		{line(straight, 51, 0, 0), 0}, {line(straight, 0, 0, 21), 0}, {line(straight, 50, 0, 0), 1}, {line(straight, 47, 0, 0), 1}, {line(straight, 46, 0, 0), 2}, {line(straight, 0, 40, 0), 1}, {line(straight, 0, 37, 0), 2}, {line(straight, 0, 0, 20), 1}, {line(straight, 0, 0, 17), 2},
		{line(straight, 2, 0, 0), 13}, {line(straight, 1, 0, 0), 13}, {line(straight, 0, 1, 0), 14}, {line(straight, 0, 0, 1), 7}, {line(straight, 2, 1, 1), 7}, {line(straight, 2, 1, 0), 13}, {line(straight, 0, 0, 0), 20}, {line(list(1, 1, 1), 0, 0, 0), 20}, {line(list(1, 1, 1), 0, 1, 0), 0}, {line(list(1, 0, 1), 0, 10, 0), 11},
	} {
		if n := mustLasts(t, l, x.line); n != x.want {
			t.Errorf("Lasts of %v: %d, not %d", x.line, n, x.want)
		}
	}
	for _, x := range []struct {
		l    oil.Lane
		line oil.Line
		want int
	}{
		{lane(to(0, 0), 0, list(7)), line(list(0), 7), 20}, {lane(to(0, 0), 0, list(7)), line(list(0), 8), 0}, {lane(to(9, 9), 100, list(100), list(100)), line(list(0, 0), 0, 91), 20}, {lane(to(9, 9), 100, list(100), list(100)), line(list(0, 0), 0, 92), 1}, {lane(to(9, 9), 100, list(100), list(100)), line(list(0, 0), 10, 0), 11},
		// Of the wear the least is carried along, and the greatest is worn.
		{lane(to(0, 1), 100, list(100), list(10)), line(list(0, 0), 0, 1), 10}, {lane(to(1, 2), 100, list(100), list(10)), line(list(0, 0), 0, 1), 10}, {lane(to(1, 2), 99, list(100), list(10)), line(list(0, 0), 0, 1), 5},
		{lane(to(1, 1), 100, list(20), list(1)), line(list(0, 0), 1, 1), 20}, {lane(to(1, 1), 100, list(20), list(1)), line(list(0, 0), 2, 1), 19},
	} {
		if n := mustLasts(t, x.l, x.line); n != x.want {
			t.Errorf("Lasts of %v in %v: %d, not %d", x.line, x.l, n, x.want)
		}
	}
}

// P10.5: by hand: blocks of lines over the same cells, over cells apart, and over some of both.
func TestPlan(t *testing.T) {
	l := lane(to(2, 5), 50, list(30, 20, 10), list(10, 20, 30), list(5, 5, 5))
	a, b, c, d := line(list(0, 0, 0), 25, 0, 0), line(list(1, 1, 1), 20, 0, 0), line(list(2, 0, 2), 0, 8, 0), line(list(2, 2, 2), 0, 0, 0)
	for _, x := range []struct {
		block []oil.Line
		want  []int
	}{
		{nil, nil}, {[]oil.Line{a}, nil}, {[]oil.Line{b}, nil}, {[]oil.Line{a, a}, nil}, {[]oil.Line{a, b, a}, nil}, {[]oil.Line{a, a, b}, nil}, {times(20, d), nil},
		{[]oil.Line{b, b}, list(1)}, {times(3, b), list(1, 2)}, {[]oil.Line{a, b, b}, list(2)}, {[]oil.Line{b, a, b}, list(1)}, {[]oil.Line{a, b, a, b}, list(2)}, {[]oil.Line{b, a, a, b, a}, list(2)},
		// As few layings may come sooner or later: the soonest ones are the least list.
		{times(3, a), list(1)}, {times(4, a), list(2)}, {times(5, a), list(1, 3)}, {times(6, a), list(2, 4)}, {[]oil.Line{a, d, d, d, a, a}, list(1)}, {[]oil.Line{a, a, d, d, d, a}, list(1)}, {[]oil.Line{a, d, a, d, a, d}, list(1)}, {[]oil.Line{d, d, a, a, d, a}, list(3)},
		// Other lines wear what this one needs: c goes over 10 of the row 1, as a does.
		{[]oil.Line{c, c}, list(1)}, {[]oil.Line{a, c}, list(1)}, {[]oil.Line{c, a}, nil}, {[]oil.Line{b, c, d}, nil}, {[]oil.Line{c, a, a, c}, list(3)}, {[]oil.Line{c, a, a, a}, list(2)}, {[]oil.Line{a, c, a}, list(1)},
		{times(20, b), list(1, 2, 3, 4, 5, 6, 7, 8, 9, 10, 11, 12, 13, 14, 15, 16, 17, 18, 19)}, {times(20, a), list(2, 4, 6, 8, 10, 12, 14, 16, 18)}, {times(19, a), list(1, 3, 5, 7, 9, 11, 13, 15, 17)},
	} {
		wantPlan(t, l, x.block, x.want...)
	}
	for _, block := range [][]oil.Line{{line(list(0, 0, 0), 31, 0, 0)}, {line(list(0, 0, 0), 0, 11, 0)}, {line(list(0, 0, 0), 0, 0, 6)}, {a, b, line(list(2, 0, 2), 11, 0, 0)}, {line(list(0, 0, 0), 31, 0, 0), d}, append(times(19, d), line(list(0, 0, 0), 100, 0, 0))} {
		if plan, right := planOf(t, l, block); right {
			t.Errorf("Plan of %v: %v", block, plan)
		}
	}
}

// P10.5: blocks of one line: as many balls from the end on as it lasts have one laying.
func TestPlanOfOneLine(t *testing.T) {
	for _, oiled := range list(20, 57, 60, 100) {
		l := lane(to(0, 9), 0, list(oiled))
		for need := 1; need <= oiled; need++ {
			x := line(list(0), need)
			lasts := (oiled-need)/9 + 1
			if n := mustLasts(t, l, x); n != min(lasts, 20) {
				t.Errorf("Lasts of %v in %v: %d, not %d", x, l, n, lasts)
			}
			for many := range 21 {
				var want []int
				for n := many - lasts; n > 0; n -= lasts {
					want = append(want, n)
				}
				slices.Reverse(want)
				wantPlan(t, l, times(many, x), want...)
			}
		}
	}
}

// P10.5: plans by hand that are right, such as are not, and such as are none of the block.
func TestProvePlan(t *testing.T) {
	l := chapters()
	a, d := line(list(0, 0, 0), 25, 0, 0), line(list(1, 1, 1), 0, 0, 0)
	for _, x := range []struct {
		block []oil.Line
		plan  []int
		want  bool
	}{
		{nil, nil, true}, {nil, list(0), false}, {nil, list(1), false}, {nil, list(-1), false},
		{times(1, a), nil, true}, {times(1, a), list(0), false}, {times(1, a), list(1), false},
		{times(3, a), list(1), true}, {times(3, a), list(2), true}, {times(3, a), list(1, 2), true}, {times(3, a), nil, false}, {times(3, a), list(0), false}, {times(3, a), list(3), false}, {times(3, a), list(-1), false}, {times(3, a), list(-1, 1), false}, {times(3, a), list(0, 1), false}, {times(3, a), list(0, 2), false}, {times(3, a), list(1, 3), false}, {times(3, a), list(1, 2, 3), false}, {times(3, a), list(1, 1), false}, {times(3, a), list(2, 1), false}, {times(3, a), list(2, 2), false}, {times(3, a), list(1, 2, 2), false}, {times(3, a), list(1, 2, 1), false},
		{times(4, a), list(2), true}, {times(4, a), list(1), false}, {times(4, a), list(3), false}, {times(4, a), list(1, 3), true}, {times(4, a), list(1, 2), true}, {times(4, a), list(2, 3), true}, {times(4, a), list(1, 2, 3), true},
		// It need not be the best one; the last stretch is asked for like the others, and so is the first one.
		{times(4, d), nil, true}, {times(4, d), list(1), true}, {times(4, d), list(1, 2, 3), true}, {times(4, d), list(4), false},
		{append(times(3, a), d, d), list(3), false}, {append(times(3, a), d, d), list(2, 3), true}, {append(times(2, d), a, a, a), list(2), false}, {append(times(2, d), a, a, a), list(3), true}, {append(times(2, d), a, a, a), list(2, 4), true},
		{times(1, line(list(0, 0, 0), 31, 0, 0)), nil, false}, {append(times(1, a), line(list(0, 0, 0), 31, 0, 0)), list(1), false},
		{times(20, d), nil, true}, {times(20, d), list(19), true}, {times(20, d), list(20), false}, {times(21, d), nil, false}, {times(21, d), list(1), false},
		{times(2, line(list(0, 0), 0, 0, 0)), nil, false}, {times(2, line(list(0, 0, 3), 0, 0, 0)), nil, false}, {times(2, line(list(0, 0, 0), 0, 0)), nil, false}, {times(2, line(list(0, 0, 0), 0, 0, -1)), nil, false},
	} {
		if is := oil.ProvePlan(l, x.block, x.plan); is != x.want {
			t.Errorf("ProvePlan of %v, %v: %v", x.block, x.plan, is)
		}
	}
	l.Carry = 101
	if oil.ProvePlan(l, nil, nil) || oil.ProvePlan(oil.Lane{}, nil, nil) {
		t.Error("ProvePlan of no lane")
	}
}

// The limits that the document names.
func TestLimits(t *testing.T) {
	if api.MaxOilRows != 8 || api.MaxOilBoards != 12 || api.MaxOilLevel != 100 || api.MaxOilWear != 9 || api.MaxOilBalls != 20 {
		t.Error("limits")
	}
}
