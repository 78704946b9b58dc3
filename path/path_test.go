package path_test

import (
	"math"
	"slices"
	"testing"

	"kingpin/api"
	"kingpin/path"
)

func to(low, high int) path.Range { return path.Range{Lo: low, Hi: high} }

func at(board, dir int) path.State { return path.State{Board: board, Dir: dir} }

func states(list ...path.State) []path.State { return list }

func pocket(low, high, least, most int) path.Pocket {
	return path.Pocket{Boards: to(low, high), Dirs: to(least, most)}
}

func anywhere() path.Pocket { return pocket(-99, 99, -99, 99) }

func patch(rows, boards path.Range, level int) path.Patch {
	return path.Patch{Rows: rows, Boards: boards, Level: level}
}

func lane(boards, rows int, hooks ...path.Range) path.Lane {
	return path.Lane{Boards: boards, Rows: rows, Hooks: hooks}
}

// with is the lane with patches more.
func with(l path.Lane, patches ...path.Patch) path.Lane {
	l.Patches = append(slices.Clone(l.Patches), patches...)
	return l
}

// oiled is the lane of the chapter's examples.
func oiled() path.Lane {
	return with(lane(20, 5, to(-1, -1), to(-1, 0)), patch(to(0, 0), to(1, 20), 1))
}

// The chapter's section Examples, and the fourth one of the document.
func TestExamples(t *testing.T) {
	l, p := oiled(), pocket(9, 15, -3, -1)
	for _, x := range []path.Lane{l, lane(40, 5, to(-1, -1))} {
		if over, gutter := mustPlay(t, x, at(12, 2), []int{-1, -1, -1, -1}); gutter || !slices.Equal(over, states(at(12, 2), at(13, 1), at(13, 0), at(12, -1), at(10, -2))) {
			t.Errorf("Play: %v, %v", over, gutter)
		}
	}
	if list, gutter := mustReach(t, l, at(12, 2), 4); gutter != path.Never || !slices.Equal(list, states(at(10, -2), at(14, -1))) {
		t.Errorf("Reach: %v, %d", list, gutter)
	}
	if list, gutter := mustReach(t, l, at(2, -3), 1); gutter != path.Surely || len(list) > 0 {
		t.Errorf("Reach: %v, %d", list, gutter)
	}
	if r := mustTurn(t, l, at(12, 2)); r != to(13, 15) {
		t.Errorf("Turn: %v", r)
	}
	if x, y := mustHits(t, l, at(12, 2), p), mustHits(t, l, at(10, 2), p); x != path.Surely || y != path.May {
		t.Errorf("Hits: %d, %d", x, y)
	}
	if list := mustAims(t, l, p); !slices.Equal(list, states(at(11, 2), at(12, 2), at(13, 2), at(15, 1), at(16, 1), at(17, 1))) {
		t.Errorf("Aims: %v", list)
	}
	if start, room := bestOf(t, l, p); start != at(12, 2) || room != 1 {
		t.Errorf("Best: %v, %d", start, room)
	}
	if path.Never != 0 || path.May != 1 || path.Surely != 2 {
		t.Error("the verdicts have other numbers")
	}
}

// P4.1: the ends of what a lane may be, and what lies just behind them.
func TestCheckLane(t *testing.T) {
	none := to(0, 0)
	full := with(lane(40, 12, to(-3, -3), to(3, 3), to(-3, 3), none), patch(to(0, 11), to(1, 40), 3), patch(to(11, 11), to(40, 40), 0), patch(none, to(1, 1), 2))
	for _, x := range []struct {
		l    path.Lane
		want api.Errno
	}{
		{path.Lane{}, api.ErrArg}, {lane(1, 1, none), api.OK}, {lane(40, 12, none), api.OK}, {full, api.OK},
		{lane(0, 1, none), api.ErrArg}, {lane(41, 1, none), api.ErrArg}, {lane(-1, 1, none), api.ErrArg},
		{lane(1, 0, none), api.ErrArg}, {lane(1, 13, none), api.ErrArg}, {lane(1, -1, none), api.ErrArg},
		{lane(9, 9), api.ErrArg}, {lane(9, 9, none, none, none, none), api.OK}, {lane(9, 9, none, none, none, none, none), api.ErrLimit},
		{lane(9, 9, to(-4, 0)), api.ErrArg}, {lane(9, 9, to(-4, -4)), api.ErrArg}, {lane(9, 9, to(0, 4)), api.ErrArg}, {lane(9, 9, to(4, 4)), api.ErrArg}, {lane(9, 9, to(1, 0)), api.ErrArg}, {lane(9, 9, to(3, -3)), api.ErrArg},
		// The last one counts as well as the first one.
		{lane(9, 9, none, none, none, to(-4, 0)), api.ErrArg}, {lane(9, 9, none, none, none, to(2, 1)), api.ErrArg},
		{with(full, patch(none, none, 0)), api.ErrArg}, {with(full, patch(none, to(41, 41), 0)), api.ErrArg}, {with(full, patch(none, to(40, 41), 0)), api.ErrArg}, {with(full, patch(none, to(0, 5), 0)), api.ErrArg}, {with(full, patch(none, to(6, 5), 0)), api.ErrArg},
		{with(full, patch(to(-1, 0), to(1, 1), 0)), api.ErrArg}, {with(full, patch(to(0, 12), to(1, 1), 0)), api.ErrArg}, {with(full, patch(to(12, 12), to(1, 1), 0)), api.ErrArg}, {with(full, patch(to(6, 5), to(1, 1), 0)), api.ErrArg},
		{with(full, patch(none, to(1, 1), 4)), api.ErrArg}, {with(full, patch(none, to(1, 1), -1)), api.ErrArg}, {with(lane(9, 9, none, none), patch(none, to(1, 9), 2)), api.ErrArg}, {with(lane(9, 9, none, none), patch(to(8, 8), to(9, 9), 1)), api.OK}, {with(lane(9, 9, none, none), patch(to(9, 9), to(9, 9), 1)), api.ErrArg}, {with(lane(9, 9, none, none), patch(to(8, 8), to(10, 10), 1)), api.ErrArg},
		{with(lane(9, 9, none), slices.Repeat([]path.Patch{patch(none, to(1, 1), 0)}, 8)...), api.OK}, {with(lane(9, 9, none), slices.Repeat([]path.Patch{patch(none, to(1, 1), 0)}, 9)...), api.ErrLimit},
	} {
		if e := path.CheckLane(x.l); e != x.want {
			t.Errorf("CheckLane of %v: %v, not %v", x.l, e, x.want)
		}
	}
}

// P4.1: by hand. The turns that are no truth are among the errors.
func TestPlay(t *testing.T) {
	any := to(-3, 3)
	// Of the patches over each other the last one counts, also if it has the level 0 again.
	over := with(lane(20, 5, to(0, 0), to(1, 1), to(2, 2)), patch(to(0, 3), to(1, 20), 1), patch(to(1, 2), to(5, 12), 2), patch(to(2, 2), to(8, 9), 0), patch(to(3, 3), to(20, 20), 2))
	for _, x := range []struct {
		l      path.Lane
		start  path.State
		turns  []int
		want   []path.State
		gutter bool
	}{
		// A lane of one row: the ball has arrived, and turns nowhere.
		{lane(1, 1, any), at(1, 0), nil, states(at(1, 0)), false}, {lane(1, 1, any), at(1, -5), nil, states(at(1, -5)), false}, {lane(40, 1, any), at(40, 5), nil, states(at(40, 5)), false},
		// A lane of one board.
		{lane(1, 3, any), at(1, 0), []int{0, 0}, states(at(1, 0), at(1, 0), at(1, 0)), false}, {lane(1, 3, any), at(1, 2), []int{-2, 0}, states(at(1, 2), at(1, 0), at(1, 0)), false}, {lane(1, 3, any), at(1, 0), []int{0, 1}, states(at(1, 0), at(1, 0)), true}, {lane(1, 3, any), at(1, 0), []int{-1}, states(at(1, 0)), true},
		// Dirs that stay at the ends, and come back from there.
		{lane(40, 5, any), at(10, 4), []int{3, 1, 0, -2}, states(at(10, 4), at(15, 5), at(20, 5), at(25, 5), at(28, 3)), false}, {lane(40, 5, any), at(30, -4), []int{-3, -1, 0, 2}, states(at(30, -4), at(25, -5), at(20, -5), at(15, -5), at(12, -3)), false}, {lane(40, 2, any), at(10, 5), []int{3}, states(at(10, 5), at(15, 5)), false}, {lane(40, 2, any), at(30, -5), []int{-3}, states(at(30, -5), at(25, -5)), false},
		// To the last boards, and over them.
		{lane(20, 3, any), at(18, 0), []int{1, 0}, states(at(18, 0), at(19, 1), at(20, 1)), false}, {lane(20, 3, any), at(18, 0), []int{1, 1}, states(at(18, 0), at(19, 1)), true}, {lane(20, 3, any), at(3, 0), []int{-1, 0}, states(at(3, 0), at(2, -1), at(1, -1)), false}, {lane(20, 3, any), at(3, 0), []int{-1, -1}, states(at(3, 0), at(2, -1)), true}, {lane(20, 5, any), at(20, 5), []int{3}, states(at(20, 5)), true}, {lane(20, 5, any), at(1, -5), []int{-3}, states(at(1, -5)), true},
		{over, at(2, 0), []int{1, 1, 2, 1}, states(at(2, 0), at(3, 1), at(5, 2), at(9, 4), at(14, 5)), false}, {over, at(4, 0), []int{1, 2, 0, 1}, states(at(4, 0), at(5, 1), at(8, 3), at(11, 3), at(15, 4)), false}, {over, at(13, -3), []int{1, 2, 2, 1}, states(at(13, -3), at(11, -2), at(11, 0), at(13, 2), at(16, 3)), false}, {over, at(17, -1), []int{1, 1, 1, 2}, states(at(17, -1), at(17, 0), at(18, 1), at(20, 2)), true},
	} {
		if list, gutter := mustPlay(t, x.l, x.start, x.turns); !slices.Equal(list, x.want) || gutter != x.gutter {
			t.Errorf("Play of %v, %v, %v: %v, %v, not %v, %v", x.l, x.start, x.turns, list, gutter, x.want, x.gutter)
		}
	}
}

// P4.2: by hand.
func TestReach(t *testing.T) {
	some := lane(20, 3, to(-1, 1))
	// It turns by 0 or 1, and on the last board of the row 2 back by 3.
	edge := with(lane(40, 4, to(0, 1), to(-3, -3)), patch(to(2, 2), to(40, 40), 1))
	for _, x := range []struct {
		l      path.Lane
		start  path.State
		row    int
		want   []path.State
		gutter uint8
	}{
		{lane(1, 1, to(-3, 3)), at(1, 5), 0, states(at(1, 5)), path.Never}, {lane(20, 12, to(3, 3)), at(20, 5), 0, states(at(20, 5)), path.Never},
		// A lane of one board.
		{lane(1, 3, to(-1, 1)), at(1, 0), 1, states(at(1, 0)), path.May}, {lane(1, 3, to(-1, 1)), at(1, 0), 2, states(at(1, 0)), path.May}, {lane(1, 12, to(0, 0)), at(1, 0), 11, states(at(1, 0)), path.Never}, {lane(1, 3, to(1, 2)), at(1, 0), 1, nil, path.Surely}, {lane(1, 3, to(1, 2)), at(1, 0), 2, nil, path.Surely}, {lane(1, 3, to(-2, 2)), at(1, -1), 1, states(at(1, 0)), path.May},
		// By several ways to the same state, and to states over the same board.
		{some, at(10, 0), 1, states(at(9, -1), at(10, 0), at(11, 1)), path.Never}, {some, at(10, 0), 2, states(at(7, -2), at(8, -1), at(9, -1), at(9, 0), at(10, 0), at(11, 0), at(11, 1), at(12, 1), at(13, 2)), path.Never},
		// Dirs that stay at the ends.
		{lane(40, 2, to(-3, 3)), at(20, 5), 1, states(at(22, 2), at(23, 3), at(24, 4), at(25, 5)), path.Never}, {lane(40, 2, to(-3, 3)), at(20, -4), 1, states(at(15, -5), at(16, -4), at(17, -3), at(18, -2), at(19, -1)), path.Never},
		// In the gutter on a row, and ever after.
		{edge, at(39, 0), 1, states(at(39, 0), at(40, 1)), path.Never}, {edge, at(39, 0), 2, states(at(39, 0), at(40, 1)), path.May}, {edge, at(39, 0), 3, states(at(38, -2), at(39, 0), at(40, 1)), path.May}, {edge, at(39, 1), 1, states(at(40, 1)), path.May}, {edge, at(39, 1), 2, nil, path.Surely}, {edge, at(39, 1), 3, nil, path.Surely}, {edge, at(37, 0), 3, states(at(37, 0), at(38, 1), at(39, -1), at(39, 1), at(40, 1), at(40, 2)), path.May},
	} {
		if list, gutter := mustReach(t, x.l, x.start, x.row); !slices.Equal(list, x.want) || gutter != x.gutter {
			t.Errorf("Reach of %v, %v in %d: %v, %d, not %v, %d", x.l, x.start, x.row, list, gutter, x.want, x.gutter)
		}
	}
}

// P4.3: by hand.
func TestTurn(t *testing.T) {
	for _, x := range []struct {
		l     path.Lane
		start path.State
		want  path.Range
	}{
		{lane(1, 1, to(-3, 3)), at(1, 5), to(1, 1)}, {lane(40, 1, to(-3, 3)), at(40, -5), to(40, 40)}, {lane(1, 12, to(-3, 3)), at(1, 0), to(1, 1)}, {lane(40, 5, to(0, 0)), at(30, -2), to(30, 30)}, {lane(40, 5, to(0, 0)), at(30, 2), to(38, 38)}, {lane(40, 5, to(-1, -1)), at(12, 2), to(13, 13)}, {lane(40, 5, to(2, 2)), at(30, -5), to(30, 30)}, {lane(40, 6, to(2, 2)), at(30, -5), to(35, 35)}, {lane(40, 9, to(2, 2)), at(30, -5), to(40, 40)},
		{lane(20, 4, to(0, 1)), at(10, 0), to(10, 16)},
		// The gutter is no board: what has been before it counts.
		{lane(20, 3, to(-3, 3)), at(2, 0), to(2, 10)}, {lane(20, 4, to(1, 2)), at(10, 0), to(16, 20)}, {lane(20, 4, to(1, 3)), at(16, 0), to(17, 20)}, {lane(20, 2, to(-1, 0)), at(19, 2), to(19, 20)}, {lane(20, 2, to(0, 0)), at(19, 2), to(19, 19)}, {lane(20, 2, to(0, 0)), at(2, -2), to(2, 2)},
		{lane(40, 12, to(-3, 3)), at(1, -5), to(1, 1)}, {lane(40, 12, to(-3, 3)), at(1, 0), to(1, 40)}, {lane(40, 12, to(-3, 3)), at(40, 0), to(40, 40)},
	} {
		if r := mustTurn(t, x.l, x.start); r != x.want {
			t.Errorf("Turn of %v, %v: %v, not %v", x.l, x.start, r, x.want)
		}
	}
}

// P4.4: by hand.
func TestHits(t *testing.T) {
	some, all := lane(20, 3, to(-1, 1)), pocket(math.MinInt, math.MaxInt, math.MinInt, math.MaxInt)
	for _, x := range []struct {
		l     path.Lane
		start path.State
		p     path.Pocket
		want  uint8
	}{
		// A ball that has arrived when it starts.
		{lane(1, 1, to(-3, 3)), at(1, 5), pocket(1, 1, 5, 5), path.Surely}, {lane(1, 1, to(-3, 3)), at(1, 5), pocket(1, 1, -5, 4), path.Never}, {lane(9, 1, to(-3, 3)), at(5, 0), pocket(6, 9, 0, 0), path.Never},
		{some, at(10, 0), all, path.Surely}, {some, at(10, 0), pocket(7, 13, -2, 2), path.Surely}, {some, at(10, 0), pocket(8, 13, -2, 2), path.May}, {some, at(10, 0), pocket(7, 12, -2, 2), path.May}, {some, at(10, 0), pocket(7, 13, -1, 2), path.May}, {some, at(10, 0), pocket(7, 13, -2, 1), path.May}, {some, at(10, 0), pocket(13, 13, 2, 2), path.May}, {some, at(10, 0), pocket(9, 9, 0, 0), path.May},
		// Pockets that no ball can hit: the board is right, but not with this Dir; or there is no such board, or Dir.
		{some, at(10, 0), pocket(13, 13, -2, 1), path.Never}, {some, at(10, 0), pocket(14, 20, -5, 5), path.Never}, {some, at(10, 0), pocket(21, 99, -5, 5), path.Never}, {some, at(10, 0), pocket(-9, 0, -5, 5), path.Never}, {some, at(10, 0), pocket(1, 20, 6, 99), path.Never}, {some, at(10, 0), pocket(math.MinInt, math.MinInt, 0, 0), path.Never}, {some, at(10, 0), pocket(1, 20, math.MaxInt, math.MaxInt), path.Never},
		// A ball in the gutter hits none, whatever its boards and Dirs are.
		{some, at(20, 2), all, path.Never}, {some, at(20, 0), all, path.May}, {some, at(1, -1), all, path.May}, {some, at(1, -2), pocket(-5, 0, -5, 5), path.Never}, {lane(20, 2, to(0, 0)), at(20, 1), pocket(21, 21, 1, 1), path.Never}, {lane(20, 2, to(0, 0)), at(1, -1), pocket(0, 0, -1, -1), path.Never}, {lane(20, 2, to(0, 1)), at(19, 1), pocket(20, 21, 1, 2), path.May},
		// Hooks of one number alone.
		{lane(20, 3, to(2, 2)), at(5, 0), pocket(11, 11, 4, 4), path.Surely}, {lane(20, 3, to(2, 2)), at(5, 0), pocket(12, 12, 4, 4), path.Never},
		{lane(40, 12, to(-3, 3)), at(20, 0), all, path.May}, {lane(40, 12, to(0, 1)), at(1, 0), pocket(1, 1, 0, 0), path.May},
	} {
		if v := mustHits(t, x.l, x.start, x.p); v != x.want {
			t.Errorf("Hits of %v, %v, %v: %d, not %d", x.l, x.start, x.p, v, x.want)
		}
		mustShow(t, x.l, x.start, x.p, x.want)
	}
}

// P4.5: by hand.
func TestAims(t *testing.T) {
	still := to(0, 0)
	gap := with(lane(9, 2, still, to(-1, 1)), patch(still, to(4, 4), 1))
	for _, x := range []struct {
		l    path.Lane
		p    path.Pocket
		want []path.State
		best path.State
		room int
	}{
		{lane(1, 1, still), pocket(1, 1, -1, 1), states(at(1, -1), at(1, 0), at(1, 1)), at(1, -1), 0},
		{lane(1, 12, still), anywhere(), states(at(1, 0)), at(1, 0), 0},
		// At the edges there is no room to the one side.
		{lane(9, 1, to(-3, 3)), pocket(1, 2, 0, 0), states(at(1, 0), at(2, 0)), at(1, 0), 0}, {lane(9, 1, to(-3, 3)), pocket(8, 9, 0, 0), states(at(8, 0), at(9, 0)), at(8, 0), 0}, {lane(9, 1, to(-3, 3)), pocket(9, 12, 5, 9), states(at(9, 5)), at(9, 5), 0},
		// Several best starts: the least Board first, then the least Dir.
		{lane(3, 1, still), pocket(1, 3, -1, 0), states(at(1, -1), at(1, 0), at(2, -1), at(2, 0), at(3, -1), at(3, 0)), at(2, -1), 1}, {lane(4, 1, still), pocket(1, 4, 2, 2), states(at(1, 2), at(2, 2), at(3, 2), at(4, 2)), at(2, 2), 1}, {lane(5, 2, still), pocket(3, 5, 1, 2), states(at(1, 2), at(2, 1), at(2, 2), at(3, 1), at(3, 2), at(4, 1)), at(2, 2), 1},
		// The room ends where a start between does not surely hit.
		{gap, pocket(1, 9, 0, 0), states(at(1, 0), at(2, 0), at(3, 0), at(5, 0), at(6, 0), at(7, 0), at(8, 0), at(9, 0)), at(7, 0), 2}, {gap, pocket(1, 7, 0, 0), states(at(1, 0), at(2, 0), at(3, 0), at(5, 0), at(6, 0), at(7, 0)), at(2, 0), 1},
		// Starts with other Dirs are no room: each has its own board.
		{lane(9, 3, still), pocket(5, 5, -2, 2), states(at(1, 2), at(3, 1), at(5, 0), at(7, -1), at(9, -2)), at(1, 2), 0},
	} {
		if list := mustAims(t, x.l, x.p); !slices.Equal(list, x.want) {
			t.Errorf("Aims of %v, %v: %v, not %v", x.l, x.p, list, x.want)
		}
		if start, room := bestOf(t, x.l, x.p); start != x.best || room != x.room {
			t.Errorf("Best of %v, %v: %v, %d, not %v, %d", x.l, x.p, start, room, x.best, x.room)
		}
	}
	for boards := 1; boards <= 40; boards++ {
		// Of an even number of boards the two in the middle have the same room.
		middle := (boards + 1) / 2
		if start, room := bestOf(t, lane(boards, 1, to(-3, 3)), anywhere()); start != at(middle, -5) || room != middle-1 {
			t.Errorf("Best of %d boards: %v, %d", boards, start, room)
		}
	}
	// No start surely hits: what hits may miss, or there is nothing to hit.
	for _, p := range []path.Pocket{pocket(10, 10, 0, 0), pocket(-3, 0, -5, 5), pocket(1, 9, 6, 9), pocket(1, 9, -9, -6), pocket(9, 9, -1, -1)} {
		if list := mustAims(t, gap, p); len(list) > 0 {
			t.Errorf("Aims of %v: %v", p, list)
		}
		if start, room := bestOf(t, gap, p); room != -1 {
			t.Errorf("Best of %v: %v, %d", p, start, room)
		}
	}
}
