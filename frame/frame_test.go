package frame_test

import (
	"math"
	"slices"
	"testing"

	"kingpin/api"
	"kingpin/frame"
)

const foul = frame.Foul

func law(frames, pins, balls, tap int) frame.Law {
	return frame.Law{Frames: frames, Pins: pins, Balls: balls, Tap: tap}
}

func ten() frame.Law { return law(10, 10, 2, 10) }

// times is a ball so many times, with others behind.
func times(n, ball int, more ...int) []int {
	return append(slices.Repeat([]int{ball}, n), more...)
}

func badLaws() []frame.Law {
	return []frame.Law{
		{}, law(0, 10, 2, 10), law(11, 10, 2, 10), law(-1, 10, 2, 10), law(10, 0, 2, 1), law(10, 0, 2, 0), law(10, 11, 2, 10), law(10, -10, 2, -10),
		law(10, 10, 1, 10), law(10, 10, 4, 10), law(10, 10, 0, 10), law(10, 10, 2, 0), law(10, 10, 2, 11), law(10, 5, 2, 6), law(10, 10, 3, -1),
		law(math.MaxInt, math.MaxInt, 2, math.MaxInt), law(math.MinInt, math.MinInt, math.MinInt, math.MinInt),
	}
}

// P1.1, CheckLaw.
func TestCheckLaw(t *testing.T) {
	for _, l := range append(append(smallLaws(), largeLaws()...), law(1, 1, 2, 1), law(10, 10, 3, 1), law(10, 5, 2, 5)) {
		if e := frame.CheckLaw(l); e != api.OK {
			t.Errorf("CheckLaw of %v: %v", l, e)
		}
	}
	for _, l := range badLaws() {
		if e := frame.CheckLaw(l); e != api.ErrArg {
			t.Errorf("CheckLaw of %v: %v", l, e)
		}
	}
}

// P1.1, Bad.
func TestBad(t *testing.T) {
	for _, x := range []struct {
		l     frame.Law
		balls []int
		want  int
		e     api.Errno
	}{
		{ten(), []int{7, 4}, 1, api.OK},
		{ten(), []int{10, 10, 5, 5}, 0, api.ErrNone},
		{ten(), nil, 0, api.ErrNone},
		{ten(), []int{}, 0, api.ErrNone},
		{ten(), []int{11}, 0, api.OK},
		{ten(), []int{-2}, 0, api.OK},
		{ten(), []int{math.MaxInt}, 0, api.OK},
		{ten(), []int{3, math.MinInt}, 1, api.OK},
		{ten(), []int{foul, foul, foul, 10}, 0, api.ErrNone},
		// The first bad ball counts, not a later one.
		{ten(), []int{1, 2, 8, 3, 11, 12}, 3, api.OK},
		// A foul leaves the pins that stood before it.
		{ten(), []int{10, 4, foul, 10}, 0, api.ErrNone},
		{law(2, 10, 3, 10), []int{4, foul, 6}, 0, api.ErrNone},
		{law(2, 10, 3, 10), []int{4, foul, 7}, 2, api.OK},
		{law(2, 10, 3, 10), []int{4, 2, 5}, 2, api.OK},
		// The game has ended.
		{ten(), times(12, 10), 0, api.ErrNone},
		{ten(), times(12, 10, 0), 12, api.OK},
		{ten(), times(20, 0), 0, api.ErrNone},
		{ten(), times(20, 0, foul), 20, api.OK},
		{ten(), times(20, 4, 0), 20, api.OK},
		{law(10, 10, 3, 10), times(30, 0), 0, api.ErrNone},
		{law(10, 10, 3, 10), times(40, 0), 30, api.OK},
		{law(1, 10, 3, 10), []int{3, 3, 4}, 0, api.ErrNone},
		{law(1, 10, 3, 10), []int{3, 3, 4, 0}, 3, api.OK},
		// The balls more of a last frame, at pins that were all set again.
		{ten(), times(18, 0, 4, 6, 10), 0, api.ErrNone},
		{ten(), times(18, 0, 4, 6, 10, 0), 21, api.OK},
		{ten(), times(18, 0, 10, 6, 4), 0, api.ErrNone},
		{ten(), times(18, 0, 10, 6, 5), 20, api.OK},
		{ten(), times(18, 0, 10, 10, 10), 0, api.ErrNone},
		{ten(), times(18, 0, 10, foul, 10), 0, api.ErrNone},
		{ten(), times(18, 0, 10, 6, foul), 0, api.ErrNone},
		// With a lesser Tap nine fell all, but only at pins that were all set.
		{law(2, 10, 2, 9), []int{9, 9, 9, 9}, 0, api.ErrNone},
		{law(2, 10, 2, 9), []int{9, 2, 9}, 2, api.OK},
		{law(2, 10, 2, 9), []int{0, 9, 2}, 0, api.ErrNone},
		{law(1, 10, 3, 9), []int{0, 9, 2}, 2, api.OK},
		{law(1, 10, 3, 9), []int{foul, 9, 2}, 2, api.OK},
		{law(1, 10, 2, 9), []int{9, foul, 10}, 0, api.ErrNone},
	} {
		if n, e := frame.Bad(x.l, x.balls); n != x.want || e != x.e {
			t.Errorf("Bad of %v by %v: %d, %v", x.balls, x.l, n, e)
		}
	}
}

// P1.2.
func TestRead(t *testing.T) {
	for _, x := range []struct {
		l        frame.Law
		balls    []int
		frames   [][]int
		counts   []int
		standing int
		done     bool
	}{
		{ten(), []int{10, 7, 3, 9, foul, 4}, [][]int{{10}, {7, 3}, {9, foul}, {4}}, []int{20, 39, 48}, 6, false},
		{ten(), []int{}, nil, nil, 10, false},
		{law(3, 4, 2, 4), nil, nil, nil, 4, false},
		// A strike waits for two balls, a spare for one.
		{ten(), []int{10}, [][]int{{10}}, nil, 10, false},
		{ten(), []int{10, 10}, [][]int{{10}, {10}}, nil, 10, false},
		{ten(), []int{10, 10, 3}, [][]int{{10}, {10}, {3}}, []int{23}, 7, false},
		{ten(), []int{10, 3}, [][]int{{10}, {3}}, nil, 7, false},
		{ten(), []int{10, 3, 4}, [][]int{{10}, {3, 4}}, []int{17, 24}, 10, false},
		{ten(), []int{6, 4}, [][]int{{6, 4}}, nil, 10, false},
		{ten(), []int{6, 4, 3}, [][]int{{6, 4}, {3}}, []int{13}, 7, false},
		{ten(), []int{6, 3}, [][]int{{6, 3}}, []int{9}, 10, false},
		// Behind a foul, or none, all pins by the second ball are a spare.
		{ten(), []int{foul, 10, 5}, [][]int{{foul, 10}, {5}}, []int{15}, 5, false},
		{ten(), []int{0, 10, 5}, [][]int{{0, 10}, {5}}, []int{15}, 5, false},
		{ten(), []int{10, foul, foul, foul}, [][]int{{10}, {foul, foul}, {foul}}, []int{10, 10}, 10, false},
		// The last frame.
		{law(2, 10, 2, 10), []int{10, 10, 10, 10}, [][]int{{10}, {10, 10, 10}}, []int{30, 60}, 0, true},
		{law(2, 10, 2, 10), []int{10, 10, 10}, [][]int{{10}, {10, 10}}, []int{30}, 10, false},
		{law(2, 10, 2, 10), []int{10, 10}, [][]int{{10}, {10}}, nil, 10, false},
		{law(2, 10, 2, 10), []int{3, 4, 10, 2, 3}, [][]int{{3, 4}, {10, 2, 3}}, []int{7, 22}, 0, true},
		{law(2, 10, 2, 10), []int{3, 4, 10, 2, 8}, [][]int{{3, 4}, {10, 2, 8}}, []int{7, 27}, 0, true},
		{law(2, 10, 2, 10), []int{3, 4, 5, 5, 10}, [][]int{{3, 4}, {5, 5, 10}}, []int{7, 27}, 0, true},
		{law(2, 10, 2, 10), []int{3, 4, 5, 4}, [][]int{{3, 4}, {5, 4}}, []int{7, 16}, 0, true},
		{law(1, 10, 2, 10), []int{10, foul, foul}, [][]int{{10, foul, foul}}, []int{10}, 0, true},
		{ten(), times(12, 10), [][]int{{10}, {10}, {10}, {10}, {10}, {10}, {10}, {10}, {10}, {10, 10, 10}}, []int{30, 60, 90, 120, 150, 180, 210, 240, 270, 300}, 0, true},
		// Three balls: all pins by the third one count nothing besides.
		{law(3, 10, 3, 10), []int{3, 3, 4, 2, 8, 6, 1, 1}, [][]int{{3, 3, 4}, {2, 8}, {6, 1, 1}}, []int{10, 26, 34}, 0, true},
		{law(2, 10, 3, 10), []int{3, 3, 4}, [][]int{{3, 3, 4}}, []int{10}, 10, false},
		{law(2, 10, 3, 10), []int{10, 1, 2, 3}, [][]int{{10}, {1, 2, 3}}, []int{13, 19}, 0, true},
		{law(2, 10, 3, 10), []int{10, 1, 2}, [][]int{{10}, {1, 2}}, []int{13}, 7, false},
		{law(1, 10, 3, 10), []int{2, 3, 4}, [][]int{{2, 3, 4}}, []int{9}, 0, true},
		{law(1, 10, 3, 10), []int{2, 3, 5}, [][]int{{2, 3, 5}}, []int{10}, 0, true},
		{law(1, 10, 3, 10), []int{2, 8, 5}, [][]int{{2, 8, 5}}, []int{15}, 0, true},
		{law(1, 10, 3, 10), []int{10, 3, 7}, [][]int{{10, 3, 7}}, []int{20}, 0, true},
		// Tap: nine at pins that were all set are ten, strike and all; at others they are nine.
		{law(3, 10, 2, 9), []int{9, 3, 4}, [][]int{{9}, {3, 4}}, []int{17, 24}, 10, false},
		{law(3, 10, 2, 9), []int{8, 2, 9, 1}, [][]int{{8, 2}, {9}, {1}}, []int{20}, 9, false},
		{law(2, 10, 2, 9), []int{0, 9}, [][]int{{0, 9}}, []int{9}, 10, false},
		{law(2, 10, 2, 9), []int{foul, 9}, [][]int{{foul, 9}}, []int{9}, 10, false},
		{law(1, 10, 2, 9), []int{9, 9, 4}, [][]int{{9, 9, 4}}, []int{24}, 0, true},
		{law(1, 10, 2, 9), []int{9, 9, 9}, [][]int{{9, 9, 9}}, []int{30}, 0, true},
		{law(1, 10, 2, 9), []int{1, 9, 9}, [][]int{{1, 9, 9}}, []int{20}, 0, true},
		{law(1, 10, 2, 9), []int{9, 0, 9}, [][]int{{9, 0, 9}}, []int{19}, 0, true},
		{law(1, 10, 2, 9), []int{9, foul, 9}, [][]int{{9, foul, 9}}, []int{19}, 0, true},
		{law(1, 10, 2, 9), []int{9, 0}, [][]int{{9, 0}}, nil, 10, false},
		{law(1, 3, 2, 2), []int{1, 2, 2}, [][]int{{1, 2, 2}}, []int{6}, 0, true},
		{law(2, 10, 2, 1), []int{1, 1, 1, 1}, [][]int{{1}, {1, 1, 1}}, []int{30, 60}, 0, true},
	} {
		g, e := frame.Read(x.l, x.balls)
		if !slices.EqualFunc(g.Frames, x.frames, slices.Equal) || !slices.Equal(g.Counts, x.counts) || g.Standing != x.standing || g.Done != x.done || e != api.OK {
			t.Errorf("Read of %v by %v: %v, %v", x.balls, x.l, g, e)
		}
	}
}

// P1.1 and P1.2: all sheets of small laws, and many of large ones, by the words of the chapter.
func TestReadPlain(t *testing.T) {
	compare := func(l frame.Law, sheet []int) {
		p := playPlain(l, sheet)
		n, e := frame.Bad(l, sheet)
		if p.bad >= 0 {
			if n != p.bad || e != api.OK {
				t.Fatalf("Bad of %v by %v: %d, %v", sheet, l, n, e)
			}
			return
		}
		if n != 0 || e != api.ErrNone {
			t.Fatalf("Bad of %v by %v: %d, %v", sheet, l, n, e)
		}
		g := mustRead(t, l, sheet)
		if !slices.EqualFunc(g.Frames, p.frames, slices.Equal) || !slices.Equal(g.Counts, p.counts()) || g.Standing != p.next(l) || g.Done != p.done {
			t.Fatalf("Read of %v by %v: %v", sheet, l, g)
		}
	}
	for _, l := range smallLaws() {
		everySheet(l, nil, foul, func(sheet []int, _ played) {
			for ball := -2; ball <= l.Pins+1; ball++ {
				compare(l, append(slices.Clone(sheet), ball))
			}
		})
	}
	someSheets(50, func(l frame.Law, sheet []int) {
		for n := range sheet {
			compare(l, sheet[:n])
		}
		compare(l, append(slices.Clone(sheet), 0))
	})
}

// P1.3.
func TestSpan(t *testing.T) {
	for _, x := range []struct {
		l      frame.Law
		balls  []int
		lo, hi int
	}{
		{ten(), []int{10, 7, 3, 9, foul, 4}, 52, 248},
		{ten(), times(10, 10, 9), 288, 289},
		{ten(), times(12, 10), 300, 300},
		{ten(), times(20, foul), 0, 0},
		{ten(), times(11, 10), 290, 300},
		{ten(), []int{9}, 9, 290},
		{ten(), []int{9, 0}, 9, 279},
		{ten(), []int{foul}, 0, 290},
		{law(1, 10, 2, 10), []int{5}, 5, 20},
		{law(1, 10, 2, 10), []int{5, 4}, 9, 9},
		{law(1, 10, 2, 10), []int{5, 5}, 10, 20},
		{law(1, 10, 2, 10), []int{10, 4}, 14, 20},
		{law(1, 10, 3, 10), []int{3, 3}, 6, 10},
		{law(1, 10, 3, 10), []int{3}, 3, 20},
		{law(2, 10, 2, 10), []int{10}, 10, 60},
		{law(2, 10, 2, 10), []int{9, 1}, 10, 50},
		{law(2, 10, 3, 10), []int{9, 0, 1}, 10, 40},
		{law(2, 10, 2, 9), []int{9}, 10, 60},
		{law(2, 10, 2, 9), []int{0, 9}, 9, 39},
	} {
		if s, e := frame.Span(x.l, x.balls); s != (frame.Range{Lo: x.lo, Hi: x.hi}) || e != api.OK {
			t.Errorf("Span of %v by %v: %v, %v", x.balls, x.l, s, e)
		}
	}
}

// P1.3, P1.4 and P1.6: against all endings of all sheets of small laws.
func TestEndings(t *testing.T) {
	for _, l := range smallLaws() {
		everySheet(l, nil, foul, func(sheet []int, p played) {
			finals := finalsOf(l, sheet)
			if s := mustSpan(t, l, sheet); s != spanOf(finals) {
				t.Fatalf("Span of %v by %v: %v", sheet, l, s)
			}
			for final := -1; final <= 3*l.Pins*l.Frames+1; final++ {
				checkShows(t, l, sheet, final, finals[final])
			}
		})
	}
}

func checkShows(t *testing.T, l frame.Law, sheet []int, final int, can bool) {
	t.Helper()
	ending, e := frame.Shows(l, sheet, final)
	if !can {
		if e != api.ErrFail || ending != nil {
			t.Fatalf("Shows of %v by %v with %d: %v, %v", sheet, l, final, ending, e)
		}
		return
	}
	whole := playPlain(l, slices.Concat(sheet, ending))
	if e != api.OK || slices.Contains(ending, foul) || whole.bad >= 0 || !whole.done || whole.final() != final {
		t.Fatalf("Shows of %v by %v with %d: %v, %v", sheet, l, final, ending, e)
	}
}

// P1.4.
func TestShows(t *testing.T) {
	one := law(1, 10, 2, 10)
	for _, x := range []struct {
		l     frame.Law
		balls []int
		final int
		want  []int
		e     api.Errno
	}{
		{ten(), times(10, 10, 9), 289, []int{1}, api.OK},
		{ten(), times(10, 10, 9), 288, []int{0}, api.OK},
		{ten(), times(10, 10, 9), 290, nil, api.ErrFail},
		{ten(), nil, 300, times(12, 10), api.OK},
		{ten(), nil, 0, times(20, 0), api.OK},
		{ten(), nil, 301, nil, api.ErrFail},
		{ten(), nil, -1, nil, api.ErrFail},
		{one, []int{5}, 12, []int{5, 2}, api.OK},
		{one, []int{5}, 4, nil, api.ErrFail},
		{one, []int{5, 4}, 9, nil, api.OK},
		{one, []int{5, 4}, 8, nil, api.ErrFail},
		{one, []int{5, 4}, 10, nil, api.ErrFail},
		{one, []int{5, 4}, math.MinInt, nil, api.ErrFail},
		{one, []int{5, 4}, math.MaxInt, nil, api.ErrFail},
		{law(1, 3, 2, 2), nil, 8, nil, api.ErrFail},
		{law(1, 3, 2, 2), []int{3, 2}, 9, []int{2}, api.OK},
	} {
		b, e := frame.Shows(x.l, x.balls, x.final)
		if x.l.Tap < x.l.Pins && x.e == api.OK {
			checkShows(t, x.l, x.balls, x.final, true) // several balls count the same
		} else if !slices.Equal(b, x.want) || e != x.e {
			t.Errorf("Shows of %v by %v with %d: %v, %v", x.balls, x.l, x.final, b, e)
		}
	}
	// By this law there is an ending for each final count.
	for final := 0; final <= 300; final++ {
		checkShows(t, ten(), nil, final, true)
	}
}

// P1.5.
func TestAhead(t *testing.T) {
	one := law(1, 10, 2, 10)
	for _, x := range []struct {
		l         frame.Law
		sheets    [][]int
		may, sure []int
	}{
		{ten(), [][]int{times(10, 10, 9, 1), times(11, 10)}, []int{1}, []int{1}},
		{ten(), [][]int{times(11, 10), times(10, 10, 9, 1)}, []int{0}, []int{0}},
		{ten(), [][]int{times(10, 10, 10, 0), times(11, 10)}, []int{0, 1}, nil},
		{one, [][]int{nil}, []int{0}, []int{0}},
		{one, [][]int{{5, 4}}, []int{0}, []int{0}},
		{one, [][]int{nil, nil}, []int{0, 1}, nil},
		{ten(), make([][]int, api.MaxFramePlayers), []int{0, 1, 2, 3, 4, 5}, nil},
		{one, [][]int{{3, 4}, {4, 3}}, []int{0, 1}, nil},
		{one, [][]int{{3, 4}, {4, 4}}, []int{1}, []int{1}},
		{one, [][]int{{3, 4}, {7}}, []int{0, 1}, nil},
		{one, [][]int{{3, 4}, {8}}, []int{1}, []int{1}},
		{one, [][]int{{3, 4}, {7}, {1, 1}}, []int{0, 1}, nil},
		{one, [][]int{{9}, {10, 10, 1}, {10, 10}}, []int{1, 2}, nil},
		{one, [][]int{{10, 10, 1}, {9}, {10, 10}, {10, 10, 10}, {8, 2}}, []int{2, 3}, nil},
		{one, [][]int{{0, 0}, {0, 0}, {0, 0}, {0, 1}, {0, 0}, {foul, 0}}, []int{3}, []int{3}},
	} {
		may, sure, e := frame.Ahead(x.l, x.sheets)
		if !slices.Equal(may, x.may) || !slices.Equal(sure, x.sure) || e != api.OK {
			t.Errorf("Ahead of %v by %v: %v, %v, %v", x.sheets, x.l, may, sure, e)
		}
	}
}

// P1.5 and P1.12: against all endings of all sheets of a match.
func TestAheadPlain(t *testing.T) {
	for _, l := range []frame.Law{law(1, 2, 2, 2), law(1, 2, 3, 1)} {
		var sheets [][]int
		everySheet(l, nil, foul, func(sheet []int, _ played) { sheets = append(sheets, sheet) })
		for i, a := range sheets {
			for j := range i + 1 {
				checkAhead(t, l, a, sheets[j], sheets[(3*i+5*j)%len(sheets)])
			}
		}
	}
}

func checkAhead(t *testing.T, l frame.Law, sheets ...[]int) {
	t.Helper()
	var may, sure []int
	finals := make([]map[int]bool, len(sheets))
	for i, sheet := range sheets {
		finals[i] = finalsOf(l, sheet)
	}
	for i := range sheets {
		some, each := wins(finals, i)
		if some {
			may = append(may, i)
		}
		if each {
			sure = append(sure, i)
		}
	}
	m, s, e := frame.Ahead(l, sheets)
	if !slices.Equal(m, may) || !slices.Equal(s, sure) || e != api.OK {
		t.Fatalf("Ahead of %v by %v: %v, %v, %v, not %v and %v", sheets, l, m, s, e, may, sure)
	}
}

// wins tells whether a player has, by some endings, no greater count against it, and by each only lesser ones.
func wins(finals []map[int]bool, player int) (some, each bool) {
	each = true
	for own := range finals[player] {
		unbeaten := true
		for i, others := range finals {
			if i == player {
				continue
			}
			reached := false
			for other := range others {
				reached = reached || other <= own
				each = each && other < own
			}
			unbeaten = unbeaten && reached
		}
		some = some || unbeaten
	}
	return some, each
}
