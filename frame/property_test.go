package frame_test

import (
	"slices"
	"testing"

	"kingpin/api"
	"kingpin/frame"
)

// P1.6: the span holds whatever follows, and is not wider with each ball more. (That its ends are reached: TestEndings, and here by Shows.)
func TestWhateverFollows(t *testing.T) {
	someSheets(10, func(l frame.Law, sheet []int) {
		final := playPlain(l, sheet).final()
		before := frame.Range{Lo: 0, Hi: 3 * l.Pins * l.Frames}
		for n := range len(sheet) + 1 {
			s := mustSpan(t, l, sheet[:n])
			if s.Lo < before.Lo || s.Hi > before.Hi {
				t.Fatalf("Span of %v by %v: %v behind %v", sheet[:n], l, s, before)
			}
			if final < s.Lo || final > s.Hi {
				t.Fatalf("Span of %v by %v: %v, but %v is a game of %d", sheet[:n], l, s, sheet, final)
			}
			checkShows(t, l, sheet[:n], s.Lo, true)
			checkShows(t, l, sheet[:n], s.Hi, true)
			checkShows(t, l, sheet[:n], s.Lo-1, false)
			checkShows(t, l, sheet[:n], s.Hi+1, false)
			before = s
		}
		if before != (frame.Range{Lo: final, Hi: final}) {
			t.Fatalf("Span of %v by %v: %v", sheet, l, before)
		}
	})
}

// P1.7: what is before the bad ball is a game's, also with a 0 instead of it, unless the game had ended.
func TestFirstBall(t *testing.T) {
	someSheets(20, func(l frame.Law, sheet []int) {
		for n := range len(sheet) + 1 {
			good := slices.Clone(sheet[:n])
			bad := l.Pins + 1
			if g := mustRead(t, l, good); !g.Done {
				bad = g.Standing + 1
			}
			whole := slices.Concat(good, []int{bad}, sheet[n:])
			if at, e := frame.Bad(l, whole); at != n || e != api.OK {
				t.Fatalf("Bad of %v by %v: %d, %v", whole, l, at, e)
			}
			if _, e := frame.Read(l, whole[:n+1]); e != api.ErrLaw {
				t.Fatalf("Read of %v by %v: %v", whole[:n+1], l, e)
			}
			want := api.ErrNone
			if n == len(sheet) {
				want = api.OK
			}
			if at, e := frame.Bad(l, append(good, 0)); e != want || e == api.OK && at != n {
				t.Fatalf("Bad of %v and 0 by %v: %d, %v", sheet[:n], l, at, e)
			}
		}
	})
}

// P1.8: what is settled never changes.
func TestSettled(t *testing.T) {
	someSheets(20, func(l frame.Law, sheet []int) {
		var before []int
		for n := range len(sheet) + 1 {
			counts := mustRead(t, l, sheet[:n]).Counts
			if len(counts) < len(before) || !slices.Equal(counts[:len(before)], before) {
				t.Fatalf("Read of %v by %v: %v behind %v", sheet[:n], l, counts, before)
			}
			before = counts
		}
		if len(before) != l.Frames {
			t.Fatalf("Read of %v by %v: %v", sheet, l, before)
		}
	})
}

// P1.9: a foul counts as a 0, and the balls of all frames are the sheet.
func TestFouls(t *testing.T) {
	someSheets(20, func(l frame.Law, sheet []int) {
		for n := range len(sheet) + 1 {
			g := mustRead(t, l, sheet[:n])
			if !slices.Equal(slices.Concat(g.Frames...), sheet[:n]) {
				t.Fatalf("Read of %v by %v: %v", sheet[:n], l, g.Frames)
			}
			for i, ball := range sheet[:n] {
				if ball != 0 && ball != foul {
					continue
				}
				other := slices.Clone(sheet[:n])
				other[i] = foul - ball
				h := mustRead(t, l, other)
				if !slices.Equal(h.Counts, g.Counts) || h.Standing != g.Standing || mustSpan(t, l, other) != mustSpan(t, l, sheet[:n]) {
					t.Fatalf("Read of %v and %v by %v: %v, %v", sheet[:n], other, l, g, h)
				}
			}
		}
	})
}

// everyLaw visits all laws that are valid.
func everyLaw(visit func(l frame.Law)) {
	for frames := 1; frames <= api.MaxFrameFrames; frames++ {
		for pins := 1; pins <= api.MaxFramePins; pins++ {
			for tap := 1; tap <= pins; tap++ {
				visit(law(frames, pins, 2, tap))
				visit(law(frames, pins, 3, tap))
			}
		}
	}
}

// P1.10: the greatest.
func TestGreatest(t *testing.T) {
	everyLaw(func(l frame.Law) {
		if s := mustSpan(t, l, nil); s != (frame.Range{Lo: 0, Hi: 3 * l.Pins * l.Frames}) {
			t.Fatalf("Span of nothing by %v: %v", l, s)
		}
	})
}

// P1.11: spares alone.
func TestSpares(t *testing.T) {
	everyLaw(func(l frame.Law) {
		for k := range l.Tap {
			var sheet []int
			for range l.Frames {
				sheet = append(sheet, k, l.Pins-k)
			}
			sheet = append(sheet, k)
			g := mustRead(t, l, sheet)
			if !g.Done || g.Counts[l.Frames-1] != l.Frames*(l.Pins+k) {
				t.Fatalf("Read of %v by %v: %v", sheet, l, g)
			}
		}
	})
}

// P1.12: some player may win, one at most is sure to, and then no other may.
func TestOneWins(t *testing.T) {
	for _, l := range largeLaws() {
		var games [][]int
		someSheets(api.MaxFramePlayers, func(other frame.Law, sheet []int) {
			if other == l {
				games = append(games, sheet)
			}
		})
		for cut := 0; cut <= api.MaxFrameBalls; cut++ {
			for players := 1; players <= len(games); players++ {
				var sheets [][]int
				done, most := true, 0
				for i, game := range games[:players] {
					sheets = append(sheets, game[:min(cut+2*i, len(game))])
					done = done && cut+2*i >= len(game)
					most = max(most, playPlain(l, game).final())
				}
				checkOneWins(t, l, sheets, done, most)
			}
		}
	}
}

func checkOneWins(t *testing.T, l frame.Law, sheets [][]int, done bool, most int) {
	t.Helper()
	may, sure, e := frame.Ahead(l, sheets)
	if e != api.OK || len(may) == 0 || len(sure) > 1 || len(sure) == 1 && !slices.Equal(may, sure) {
		t.Fatalf("Ahead of %v by %v: %v, %v, %v", sheets, l, may, sure, e)
	}
	if !done {
		return
	}
	for i, sheet := range sheets {
		if slices.Contains(may, i) != (playPlain(l, sheet).final() == most) {
			t.Fatalf("Ahead of %v by %v: %v", sheets, l, may)
		}
	}
	if (len(sure) == 1) != (len(may) == 1) {
		t.Fatalf("Ahead of %v by %v: %v, %v", sheets, l, may, sure)
	}
}

// P1.13: a lesser Tap is kinder.
func TestKinder(t *testing.T) {
	same, more := 0, 0
	compare := func(l frame.Law, sheet []int) {
		g := mustRead(t, l, sheet)
		for tap := 1; tap < l.Tap; tap++ {
			kinder := l
			kinder.Tap = tap
			h, e := frame.Read(kinder, sheet)
			if e != api.OK || !slices.EqualFunc(g.Frames, h.Frames, slices.Equal) {
				continue
			}
			for i := range min(len(g.Counts), len(h.Counts)) {
				same++
				if h.Counts[i] > g.Counts[i] {
					more++
				} else if h.Counts[i] < g.Counts[i] {
					t.Fatalf("%v counts %v by %v, but %v by %v", sheet, g.Counts, l, h.Counts, kinder)
				}
			}
		}
	}
	for _, l := range smallLaws() {
		everySheet(l, nil, foul, func(sheet []int, _ played) { compare(l, sheet) })
	}
	someSheets(50, func(l frame.Law, sheet []int) {
		for n := range len(sheet) + 1 {
			compare(l, sheet[:n])
		}
	})
	if same == 0 || more == 0 {
		t.Errorf("%d counts, %d of them greater", same, more)
	}
}
