package path_test

import (
	"math/rand"
	"slices"
	"testing"

	"kingpin/api"
	"kingpin/path"
)

// The slow model: truth by truth, by the words of the chapter and nothing of the package.

func in(n int, r path.Range) bool { return r.Lo <= n && n <= r.Hi }

func hookOf(l path.Lane, row, board int) path.Range {
	level := 0
	for _, p := range l.Patches {
		if in(row, p.Rows) && in(board, p.Boards) {
			level = p.Level
		}
	}
	return l.Hooks[level]
}

// stepOf is where a ball goes from a state if it turns by the number; the Board may be none of the lane.
func stepOf(s path.State, turn int) path.State {
	dir := s.Dir + turn
	if dir > 5 {
		dir = 5
	}
	if dir < -5 {
		dir = -5
	}
	return at(s.Board+dir, dir)
}

// course is a truth, and what the ball does in it.
type course struct {
	turns  []int
	over   []path.State
	gutter bool
}

func (c course) last() path.State { return c.over[len(c.over)-1] }

func (c course) turn() int {
	turn := 0
	for _, s := range c.over {
		turn = max(turn, s.Board)
	}
	return turn
}

func (c course) hits(p path.Pocket) bool {
	return !c.gutter && in(c.last().Board, p.Boards) && in(c.last().Dir, p.Dirs)
}

// coursesOf are all truths of a ball.
func coursesOf(l path.Lane, start path.State) []course {
	var list []course
	var roll func(c course)
	roll = func(c course) {
		row := len(c.over) - 1
		if c.gutter || row == l.Rows-1 {
			list = append(list, c)
			return
		}
		hook := hookOf(l, row, c.last().Board)
		for turn := hook.Lo; turn <= hook.Hi; turn++ {
			next := stepOf(c.last(), turn)
			longer := course{append(slices.Clone(c.turns), turn), slices.Clone(c.over), !in(next.Board, to(1, l.Boards))}
			if !longer.gutter {
				longer.over = append(longer.over, next)
			}
			roll(longer)
		}
	}
	roll(course{over: states(start)})
	return list
}

func verdictOf(truths []course, is func(c course) bool) uint8 {
	switch n := len(slices.DeleteFunc(slices.Clone(truths), func(c course) bool { return !is(c) })); n {
	case 0:
		return path.Never
	case len(truths):
		return path.Surely
	}
	return path.May
}

func compare(a, b path.State) int {
	if a.Board != b.Board {
		return a.Board - b.Board
	}
	return a.Dir - b.Dir
}

func plainReach(truths []course, row int) ([]path.State, uint8) {
	var list []path.State
	for _, c := range truths {
		if row < len(c.over) && !slices.Contains(list, c.over[row]) {
			list = append(list, c.over[row])
		}
	}
	slices.SortFunc(list, compare)
	return list, verdictOf(truths, func(c course) bool { return row >= len(c.over) })
}

func plainTurn(truths []course) path.Range {
	r := to(1000, 0)
	for _, c := range truths {
		r = to(min(r.Lo, c.turn()), max(r.Hi, c.turn()))
	}
	return r
}

func plainHits(truths []course, p path.Pocket) uint8 {
	return verdictOf(truths, func(c course) bool { return c.hits(p) })
}

// startsOf are all starts of the lane, in their order.
func startsOf(l path.Lane) []path.State {
	var list []path.State
	for board := 1; board <= l.Boards; board++ {
		for dir := -5; dir <= 5; dir++ {
			list = append(list, at(board, dir))
		}
	}
	return list
}

// plainRoom is the room of a start, if just these are all that surely hit.
func plainRoom(l path.Lane, sure []path.State, start path.State) int {
	for n := 0; ; n++ {
		for board := start.Board - n; board <= start.Board+n; board++ {
			if !in(board, to(1, l.Boards)) || !slices.Contains(sure, at(board, start.Dir)) {
				return n - 1
			}
		}
	}
}

// plainBest returns the room -1 if no start surely hits.
func plainBest(l path.Lane, sure []path.State) (path.State, int) {
	best, most := path.State{}, -1
	for _, start := range startsOf(l) {
		if n := plainRoom(l, sure, start); n > most {
			best, most = start, n
		}
	}
	return best, most
}

// someRange is a range between the ends, not wider than told.
func someRange(r *rand.Rand, low, high, wide int) path.Range {
	a := low + r.Intn(high-low+1)
	return to(a, min(high, a+r.Intn(wide+1)))
}

// someLane is a lane by chance; its Hooks are not wider than told.
func someLane(r *rand.Rand, boards, rows, wide int) path.Lane {
	l := lane(1+r.Intn(boards), 1+r.Intn(rows))
	for range 1 + r.Intn(4) {
		l.Hooks = append(l.Hooks, someRange(r, -3, 3, wide))
	}
	for range r.Intn(9) {
		l.Patches = append(l.Patches, patch(someRange(r, 0, l.Rows-1, l.Rows), someRange(r, 1, l.Boards, l.Boards), r.Intn(len(l.Hooks))))
	}
	return l
}

func someStart(r *rand.Rand, l path.Lane) path.State { return at(1+r.Intn(l.Boards), r.Intn(11)-5) }

// somePocket is often wide, and goes not seldom over the edges of the lane.
func somePocket(r *rand.Rand, l path.Lane) path.Pocket {
	return path.Pocket{Boards: someRange(r, -1, l.Boards+2, l.Boards), Dirs: someRange(r, -6, 6, 12)}
}

// someTruth is a truth of the ball by chance.
func someTruth(r *rand.Rand, l path.Lane, start path.State) course {
	c := course{over: states(start)}
	for !c.gutter && len(c.over) < l.Rows {
		hook := hookOf(l, len(c.over)-1, c.last().Board)
		turn := hook.Lo + r.Intn(hook.Hi-hook.Lo+1)
		next := stepOf(c.last(), turn)
		c.turns, c.gutter = append(c.turns, turn), !in(next.Board, to(1, l.Boards))
		if !c.gutter {
			c.over = append(c.over, next)
		}
	}
	return c
}

func mustPlay(t *testing.T, l path.Lane, start path.State, turns []int) ([]path.State, bool) {
	t.Helper()
	over, gutter, e := path.Play(l, start, turns)
	if e != api.OK {
		t.Fatalf("Play of %v, %v, %v: %v", l, start, turns, e)
	}
	return over, gutter
}

func mustReach(t *testing.T, l path.Lane, start path.State, row int) ([]path.State, uint8) {
	t.Helper()
	list, gutter, e := path.Reach(l, start, row)
	if e != api.OK {
		t.Fatalf("Reach of %v, %v in %d: %v", l, start, row, e)
	}
	return list, gutter
}

func mustTurn(t *testing.T, l path.Lane, start path.State) path.Range {
	t.Helper()
	turn, e := path.Turn(l, start)
	if e != api.OK {
		t.Fatalf("Turn of %v, %v: %v", l, start, e)
	}
	return turn
}

func mustHits(t *testing.T, l path.Lane, start path.State, p path.Pocket) uint8 {
	t.Helper()
	v, e := path.Hits(l, start, p)
	if e != api.OK {
		t.Fatalf("Hits of %v, %v, %v: %v", l, start, p, e)
	}
	return v
}

// mustShow asks for both truths of a ball of which this is the verdict, and plays those that there are.
func mustShow(t *testing.T, l path.Lane, start path.State, p path.Pocket, verdict uint8) {
	t.Helper()
	for _, hit := range []bool{false, true} {
		turns, e := path.Shows(l, start, p, hit)
		if hit && verdict == path.Never || !hit && verdict == path.Surely {
			if e != api.ErrNone || len(turns) > 0 {
				t.Fatalf("Shows of %v, %v, %v, %v: %v, %v, but the verdict is %d", l, start, p, hit, turns, e, verdict)
			}
			continue
		}
		over, gutter, f := path.Play(l, start, turns)
		if e != api.OK || f != api.OK || (course{turns, over, gutter}).hits(p) != hit {
			t.Fatalf("Shows of %v, %v, %v, %v: %v, %v; Play: %v, %v, %v", l, start, p, hit, turns, e, over, gutter, f)
		}
	}
}

func mustAims(t *testing.T, l path.Lane, p path.Pocket) []path.State {
	t.Helper()
	list, e := path.Aims(l, p)
	if e != api.OK {
		t.Fatalf("Aims of %v, %v: %v", l, p, e)
	}
	return list
}

// bestOf returns the room -1 if no start surely hits.
func bestOf(t *testing.T, l path.Lane, p path.Pocket) (path.State, int) {
	t.Helper()
	start, room, e := path.Best(l, p)
	if e == api.ErrFail && start == at(0, 0) && room == 0 {
		return start, -1
	}
	if e != api.OK {
		t.Fatalf("Best of %v, %v: %v, %d, %v", l, p, start, room, e)
	}
	return start, room
}
