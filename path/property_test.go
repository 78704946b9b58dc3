package path_test

import (
	"math/rand"
	"slices"
	"testing"

	"kingpin/api"
	"kingpin/path"
)

// some visits lanes by chance, with a start and a pocket.
func some(seed int64, times, boards, rows, wide int, visit func(r *rand.Rand, l path.Lane, start path.State, p path.Pocket)) {
	r := rand.New(rand.NewSource(seed))
	for range times {
		l := someLane(r, boards, rows, wide)
		visit(r, l, someStart(r, l), somePocket(r, l))
	}
}

func subset(list, of []path.State) bool {
	return !slices.ContainsFunc(list, func(s path.State) bool { return !slices.Contains(of, s) })
}

// P4.1 to P4.4, P4.7: what is told of a ball is what all its truths tell.
func TestTruths(t *testing.T) {
	var verdicts, gutters [3]int
	some(1, 2500, 20, 5, 4, func(r *rand.Rand, l path.Lane, start path.State, p path.Pocket) {
		truths := coursesOf(l, start)
		for row := range l.Rows {
			list, gutter := mustReach(t, l, start, row)
			if want, lost := plainReach(truths, row); !slices.Equal(list, want) || gutter != lost {
				t.Fatalf("Reach of %v, %v in %d: %v, %d, not %v, %d", l, start, row, list, gutter, want, lost)
			}
			gutters[gutter]++
		}
		if turn := mustTurn(t, l, start); turn != plainTurn(truths) {
			t.Fatalf("Turn of %v, %v: %v, not %v", l, start, turn, plainTurn(truths))
		}
		v := mustHits(t, l, start, p)
		if v != plainHits(truths, p) {
			t.Fatalf("Hits of %v, %v, %v: %d, not %d", l, start, p, v, plainHits(truths, p))
		}
		verdicts[v]++
		mustShow(t, l, start, p, v)
		c := truths[r.Intn(len(truths))]
		if over, gutter := mustPlay(t, l, start, c.turns); !slices.Equal(over, c.over) || gutter != c.gutter {
			t.Fatalf("Play of %v, %v, %v: %v, %v, not %v, %v", l, start, c.turns, over, gutter, c.over, c.gutter)
		}
	})
	if slices.Min(verdicts[:]) < 100 || slices.Min(gutters[:]) < 100 {
		t.Errorf("too few of some verdict: %v, %v", verdicts, gutters)
	}
}

// P4.1: the truths of a ball are just the turns that Play takes.
func TestTakenTurns(t *testing.T) {
	some(2, 60, 12, 4, 3, func(_ *rand.Rand, l path.Lane, start path.State, _ path.Pocket) {
		truths, taken := coursesOf(l, start), 0
		var ask func(turns []int)
		ask = func(turns []int) {
			over, gutter, e := path.Play(l, start, turns)
			if e == api.OK {
				taken++
			}
			is := slices.ContainsFunc(truths, func(c course) bool { return slices.Equal(c.turns, turns) })
			if is != (e == api.OK) || !is && (e != api.ErrRange || len(over) > 0 || gutter) {
				t.Fatalf("Play of %v, %v, %v: %v, %v, %v", l, start, turns, over, gutter, e)
			}
			for turn := -4; turn <= 4 && len(turns) < l.Rows; turn++ {
				ask(append(slices.Clone(turns), turn))
			}
		}
		ask(nil)
		if taken != len(truths) {
			t.Fatalf("%d truths of %v, %v are taken, not %d", taken, l, start, len(truths))
		}
	})
}

// P4.5, P4.11: against the definition, start by start.
func TestAllAims(t *testing.T) {
	var rooms [6]int
	some(3, 500, 12, 4, 2, func(_ *rand.Rand, l path.Lane, _ path.State, p path.Pocket) {
		var sure []path.State
		for _, start := range startsOf(l) {
			if plainHits(coursesOf(l, start), p) == path.Surely {
				sure = append(sure, start)
			}
		}
		if list := mustAims(t, l, p); !slices.Equal(list, sure) {
			t.Fatalf("Aims of %v, %v: %v, not %v", l, p, list, sure)
		}
		start, room := bestOf(t, l, p)
		if best, most := plainBest(l, sure); start != best || room != most {
			t.Fatalf("Best of %v, %v: %v, %d, not %v, %d", l, p, start, room, best, most)
		}
		rooms[min(room+1, 5)]++
	})
	if slices.Min(rooms[:4]) < 20 {
		t.Errorf("too few of some room: %v", rooms)
	}
}

// P4.6: in each truth the ball is where Reach tells, turns where Turn does, and hits as it must.
func TestWhatever(t *testing.T) {
	some(4, 600, 40, 12, 6, func(r *rand.Rand, l path.Lane, start path.State, p path.Pocket) {
		v, turn := mustHits(t, l, start, p), mustTurn(t, l, start)
		for range 5 {
			c := someTruth(r, l, start)
			over, gutter := mustPlay(t, l, start, c.turns)
			if !slices.Equal(over, c.over) || gutter != c.gutter {
				t.Fatalf("Play of %v, %v, %v: %v, %v, not %v, %v", l, start, c.turns, over, gutter, c.over, c.gutter)
			}
			for row := range l.Rows {
				list, lost := mustReach(t, l, start, row)
				is := row < len(over)
				if is && (!slices.Contains(list, over[row]) || lost == path.Surely) || !is && lost == path.Never {
					t.Fatalf("Reach of %v, %v in %d: %v, %d; Play of %v: %v", l, start, row, list, lost, c.turns, over)
				}
			}
			if !in(c.turn(), turn) || v == path.Surely && !c.hits(p) || v == path.Never && c.hits(p) {
				t.Fatalf("Turn, Hits of %v, %v, %v: %v, %d; Play of %v: %v, %v", l, start, p, turn, v, c.turns, over, gutter)
			}
		}
		mustShow(t, l, start, p, v)
		if slices.Contains(mustAims(t, l, p), start) != (v == path.Surely) {
			t.Fatalf("Aims of %v, %v has %v or not, but the verdict is %d", l, p, start, v)
		}
	})
}

// wider is the lane with one wider range of its Hooks, if it can be wider.
func wider(r *rand.Rand, l path.Lane) path.Lane {
	l.Hooks = slices.Clone(l.Hooks)
	h := &l.Hooks[r.Intn(len(l.Hooks))]
	*h = to(max(-3, h.Lo-r.Intn(2)), min(3, h.Hi+r.Intn(2)))
	return l
}

// P4.8: with wider Hooks more is reached, and less sure; with a wider pocket more is hit.
func TestWider(t *testing.T) {
	more, fewer, gained := 0, 0, 0
	some(5, 800, 30, 10, 2, func(r *rand.Rand, l path.Lane, start path.State, p path.Pocket) {
		w := wider(r, l)
		for row := range l.Rows {
			list, gutter := mustReach(t, l, start, row)
			all, lost := mustReach(t, w, start, row)
			if !subset(list, all) || gutter > path.Never && lost == path.Never || lost == path.Surely && gutter != path.Surely {
				t.Fatalf("Reach of %v, %v in %d: %v, %d, but of %v: %v, %d", l, start, row, list, gutter, w, all, lost)
			}
			more += len(all) - len(list)
		}
		if x, y := mustTurn(t, l, start), mustTurn(t, w, start); y.Lo > x.Lo || y.Hi < x.Hi {
			t.Fatalf("Turn of %v, %v: %v, but of %v: %v", l, start, x, w, y)
		}
		aims, left := mustAims(t, l, p), mustAims(t, w, p)
		if !subset(left, aims) {
			t.Fatalf("Aims of %v, %v: %v, but of %v: %v", l, p, aims, w, left)
		}
		fewer += len(aims) - len(left)
		q := path.Pocket{Boards: to(p.Boards.Lo-r.Intn(2), p.Boards.Hi+r.Intn(2)), Dirs: to(p.Dirs.Lo-r.Intn(2), p.Dirs.Hi+r.Intn(2))}
		all := mustAims(t, l, q)
		if !subset(aims, all) || mustHits(t, l, start, p) > mustHits(t, l, start, q) {
			t.Fatalf("Aims, Hits of %v, %v: %v, but of %v: %v", l, p, aims, q, all)
		}
		gained += len(all) - len(aims)
	})
	if more < 1000 || fewer < 300 || gained < 300 {
		t.Errorf("too little is changed: %d, %d, %d", more, fewer, gained)
	}
}

// P4.9: with Hooks of 0..0 alone a ball goes straight.
func TestStraight(t *testing.T) {
	some(6, 1000, 40, 12, 0, func(_ *rand.Rand, l path.Lane, start path.State, p path.Pocket) {
		for i := range l.Hooks {
			l.Hooks[i] = to(0, 0)
		}
		turns := 0
		for row := range l.Rows {
			s := at(start.Board+row*start.Dir, start.Dir)
			want, lost := states(s), path.Never
			if !in(s.Board, to(1, l.Boards)) {
				want, lost = nil, path.Surely
			}
			if list, gutter := mustReach(t, l, start, row); !slices.Equal(list, want) || gutter != lost {
				t.Fatalf("Reach of %v, %v in %d: %v, %d", l, start, row, list, gutter)
			}
			if row > 0 && in(s.Board-start.Dir, to(1, l.Boards)) {
				turns++
			}
		}
		over, _ := mustPlay(t, l, start, make([]int, turns))
		v, last := mustHits(t, l, start, p), at(start.Board+(l.Rows-1)*start.Dir, start.Dir)
		hits := in(last.Board, to(1, l.Boards)) && in(last.Board, p.Boards) && in(last.Dir, p.Dirs)
		if hits && v != path.Surely || !hits && v != path.Never {
			t.Fatalf("Hits of %v, %v, %v: %d; it goes over %v", l, start, p, v, over)
		}
		if r := mustTurn(t, l, start); r.Lo != r.Hi || r.Lo != max(start.Board, over[len(over)-1].Board) {
			t.Fatalf("Turn of %v, %v: %v; it goes over %v", l, start, r, over)
		}
		if shown, e := path.Shows(l, start, p, hits); e != api.OK || !slices.Equal(shown, make([]int, turns)) {
			t.Fatalf("Shows of %v, %v, %v: %v, %v", l, start, p, shown, e)
		}
	})
}

func overBoards(l path.Lane, r path.Range) path.Range { return to(l.Boards+1-r.Hi, l.Boards+1-r.Lo) }

func turnedOver(l path.Lane) path.Lane {
	l.Hooks, l.Patches = slices.Clone(l.Hooks), slices.Clone(l.Patches)
	for i, h := range l.Hooks {
		l.Hooks[i] = to(-h.Hi, -h.Lo)
	}
	for i, p := range l.Patches {
		l.Patches[i].Boards = overBoards(l, p.Boards)
	}
	return l
}

// mirrored are the states on the lane that is turned over, in their order.
func mirrored(l path.Lane, list []path.State) []path.State {
	var other []path.State
	for _, s := range list {
		other = append(other, at(l.Boards+1-s.Board, -s.Dir))
	}
	slices.SortFunc(other, compare)
	return other
}

// P4.10: on the lane that is turned over the same is reached, mirrored.
func TestTurnedOver(t *testing.T) {
	some(7, 800, 40, 12, 6, func(_ *rand.Rand, l path.Lane, start path.State, p path.Pocket) {
		m, from := turnedOver(l), mirrored(l, states(start))[0]
		q := path.Pocket{Boards: overBoards(l, p.Boards), Dirs: to(-p.Dirs.Hi, -p.Dirs.Lo)}
		for row := range l.Rows {
			list, gutter := mustReach(t, l, start, row)
			if other, lost := mustReach(t, m, from, row); !slices.Equal(other, mirrored(l, list)) || gutter != lost {
				t.Fatalf("Reach of %v, %v in %d: %v, %d, but turned over: %v, %d", l, start, row, list, gutter, other, lost)
			}
		}
		v := mustHits(t, l, start, p)
		if w := mustHits(t, m, from, q); v != w {
			t.Fatalf("Hits of %v, %v, %v: %d, but turned over: %d", l, start, p, v, w)
		}
		list := mustAims(t, l, p)
		if other := mustAims(t, m, q); !slices.Equal(other, mirrored(l, list)) {
			t.Fatalf("Aims of %v, %v: %v, but turned over: %v", l, p, list, other)
		}
		start, room := bestOf(t, l, p)
		if _, same := bestOf(t, m, q); room != same {
			t.Fatalf("Best of %v, %v: %v, %d, but turned over %d", l, p, start, room, same)
		}
	})
}

// P4.11: all starts in the room of Best surely hit; no start has more, and none before it as much.
func TestRoom(t *testing.T) {
	wide := 0
	some(8, 500, 40, 12, 1, func(_ *rand.Rand, l path.Lane, _ path.State, p path.Pocket) {
		var sure []path.State
		for _, start := range startsOf(l) {
			if mustHits(t, l, start, p) == path.Surely {
				sure = append(sure, start)
			}
		}
		best, room := bestOf(t, l, p)
		for n := -room; n <= room; n++ {
			if !slices.Contains(sure, at(best.Board+n, best.Dir)) {
				t.Fatalf("Best of %v, %v: %v, %d, but not surely by %d", l, p, best, room, n)
			}
		}
		for _, start := range startsOf(l) {
			if n := plainRoom(l, sure, start); n > room || n == room && room >= 0 && compare(start, best) < 0 {
				t.Fatalf("Best of %v, %v: %v, %d, but %v has %d", l, p, best, room, start, n)
			}
		}
		if room > 1 {
			wide++
		}
	})
	if wide < 50 {
		t.Errorf("only %d of some room", wide)
	}
}

// P4.12: the states of a row are just those to which the states before it lead.
func TestRowByRow(t *testing.T) {
	some(9, 1000, 40, 12, 6, func(_ *rand.Rand, l path.Lane, start path.State, _ path.Pocket) {
		before, lost := mustReach(t, l, start, 0)
		if !slices.Equal(before, states(start)) || lost != path.Never {
			t.Fatalf("Reach of %v, %v in 0: %v, %d", l, start, before, lost)
		}
		for row := 1; row < l.Rows; row++ {
			may := lost != path.Never
			var want []path.State
			for _, s := range before {
				for _, next := range followers(l, s, row-1) {
					may = may || !in(next.Board, to(1, l.Boards))
					if in(next.Board, to(1, l.Boards)) && !slices.Contains(want, next) {
						want = append(want, next)
					}
				}
			}
			slices.SortFunc(want, compare)
			list, gutter := mustReach(t, l, start, row)
			if !slices.Equal(list, want) || (gutter != path.Never) != may || (gutter == path.Surely) != (len(want) == 0) {
				t.Fatalf("Reach of %v, %v in %d: %v, %d, but before it %v, %d", l, start, row, list, gutter, before, lost)
			}
			before, lost = list, gutter
		}
	})
}

func followers(l path.Lane, s path.State, row int) []path.State {
	var list []path.State
	for hook, turn := hookOf(l, row, s.Board), -3; turn <= 3; turn++ {
		if in(turn, hook) {
			list = append(list, stepOf(s, turn))
		}
	}
	return list
}
