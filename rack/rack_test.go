package rack_test

import (
	"math/rand"
	"slices"
	"testing"

	"kingpin/api"
	"kingpin/rack"
)

func over(low, high int) rack.Range { return rack.Range{Lo: low, Hi: high} }

func surely(from, to int) rack.Link { return rack.Link{From: from, To: to, Sure: true} }

func perhaps(from, to int) rack.Link { return rack.Link{From: from, To: to} }

// four has the pins over 20; 17, 23; 14, 20, 26; 11, 17, 23, 29.
func four(links ...rack.Link) rack.Rack {
	return rack.Rack{Rows: 4, Middle: 20, Gap: 3, Reach: 2, Links: links}
}

// linked is the rack of the chapter's examples.
func linked() rack.Rack { return four(surely(0, 1), perhaps(1, 3), surely(3, 6)) }

func tenPins() []int { return []int{0, 1, 2, 3, 4, 5, 6, 7, 8, 9} }

func nowhere() []rack.Range { return []rack.Range{over(0, 0), over(0, 0), over(0, 0), over(0, 0)} }

func yes(n int) []bool { return slices.Repeat([]bool{true}, n) }

// The chapter's section Examples.
func TestExamples(t *testing.T) {
	x := thrown{linked(), tenPins(), []rack.Range{over(21, 21), over(22, 22), over(22, 24), over(23, 25)}}
	if l := mustHit(t, x, truth{[]int{21, 22, 23, 24}, yes(3)}); !slices.Equal(l, []int{4, 5, 7, 9}) {
		t.Errorf("Hit: %v", l)
	}
	sure, may := mustFalls(t, x)
	if !slices.Equal(sure, []int{0, 1, 2, 8}) || !slices.Equal(may, []int{0, 1, 2, 3, 4, 5, 6, 8}) {
		t.Errorf("Falls: %v, %v", sure, may)
	}
	if n := mustLeft(t, x); n != (rack.Range{Lo: 3, Hi: 6}) {
		t.Errorf("Left: %v", n)
	}
	for leave, want := range map[[3]int]bool{{4, 7, 9}: true, {5, 7, 9}: true, {3, 7, 9}: false, {6, 7, 9}: false} {
		if rack.CanLeave(x.Rack, x.pins, x.ball, leave[:]) != want {
			t.Errorf("CanLeave of %v", leave)
		}
	}
	if rack.CanLeave(x.Rack, x.pins, x.ball, []int{7, 9}) {
		t.Error("CanLeave of 7, 9")
	}
}

// P2.1: the ends of what a rack may be, and what lies just behind them.
func TestCheckRack(t *testing.T) {
	for _, x := range []struct {
		r    rack.Rack
		want api.Errno
	}{
		{rack.Rack{Rows: 1, Gap: 1}, api.OK}, {rack.Rack{Rows: 4, Middle: 60, Gap: 8, Reach: 10}, api.OK}, {rack.Rack{}, api.ErrArg},
		{rack.Rack{Rows: 0, Gap: 1}, api.ErrArg}, {rack.Rack{Rows: -1, Gap: 1}, api.ErrArg}, {rack.Rack{Rows: 5, Gap: 1}, api.ErrArg},
		{rack.Rack{Rows: 2, Middle: -1, Gap: 1}, api.ErrArg}, {rack.Rack{Rows: 2, Middle: 61, Gap: 1}, api.ErrArg},
		{rack.Rack{Rows: 2, Gap: 0}, api.ErrArg}, {rack.Rack{Rows: 2, Gap: -1}, api.ErrArg}, {rack.Rack{Rows: 2, Gap: 9}, api.ErrArg},
		{rack.Rack{Rows: 2, Gap: 1, Reach: -1}, api.ErrArg}, {rack.Rack{Rows: 2, Gap: 1, Reach: 11}, api.ErrArg},
		{four(surely(0, 9)), api.OK}, {four(surely(9, 0)), api.OK}, {four(perhaps(9, 0), surely(0, 9), perhaps(0, 9), surely(9, 0), surely(9, 0)), api.OK},
		{four(surely(0, 10)), api.ErrArg}, {four(surely(10, 0)), api.ErrArg}, {four(surely(0, -1)), api.ErrArg}, {four(surely(-1, 0)), api.ErrArg},
		{four(surely(0, 0)), api.ErrArg}, {four(perhaps(9, 9)), api.ErrArg}, {four(surely(0, 1), perhaps(2, 2)), api.ErrArg},
		{rack.Rack{Rows: 1, Gap: 1, Links: []rack.Link{surely(0, 1)}}, api.ErrArg}, {rack.Rack{Rows: 3, Gap: 1, Links: []rack.Link{surely(0, 5)}}, api.OK}, {rack.Rack{Rows: 3, Gap: 1, Links: []rack.Link{surely(0, 6)}}, api.ErrArg},
		{four(slices.Repeat([]rack.Link{surely(0, 1)}, 12)...), api.OK}, {four(slices.Repeat([]rack.Link{surely(0, 1)}, 13)...), api.ErrLimit},
		{four(slices.Repeat([]rack.Link{perhaps(0, 1)}, 6)...), api.OK}, {four(slices.Repeat([]rack.Link{perhaps(0, 1)}, 7)...), api.ErrLimit},
		{four(slices.Concat(slices.Repeat([]rack.Link{surely(1, 0)}, 6), slices.Repeat([]rack.Link{perhaps(0, 1)}, 6))...), api.OK},
		{four(slices.Concat(slices.Repeat([]rack.Link{surely(1, 0)}, 5), slices.Repeat([]rack.Link{perhaps(0, 1)}, 7))...), api.ErrLimit},
	} {
		if e := rack.CheckRack(x.r); e != x.want {
			t.Errorf("CheckRack of %v: %v, not %v", x.r, e, x.want)
		}
	}
}

// P2.1: kinds by hand, and of all leaves of all racks, whatever their gap.
func TestKind(t *testing.T) {
	for _, x := range []struct {
		leave []int
		want  uint8
	}{
		{nil, rack.None}, {[]int{}, rack.None}, {[]int{0}, rack.Single}, {[]int{9}, rack.Single}, {[]int{3, 6}, rack.Plain}, {[]int{6, 9}, rack.Split}, {[]int{0, 6}, rack.Washout},
		{[]int{1, 2}, rack.Plain}, {[]int{6, 7}, rack.Plain}, {[]int{6, 8}, rack.Split}, {[]int{3, 5}, rack.Split}, {[]int{2, 3}, rack.Split}, {[]int{5, 6}, rack.Split}, {[]int{0, 4}, rack.Washout}, {[]int{1, 7}, rack.Split}, {[]int{0, 1, 2, 4}, rack.Plain}, {[]int{1, 3, 4, 6}, rack.Plain}, {[]int{1, 2, 6, 7, 8, 9}, rack.Split}, {[]int{0, 2, 5, 9}, rack.Plain}, {tenPins(), rack.Plain}, {[]int{0, 1, 2, 6, 7, 8, 9}, rack.Washout},
	} {
		if k := mustKind(t, linked(), x.leave); k != x.want {
			t.Errorf("Kind of %v: %d, not %d", x.leave, k, x.want)
		}
	}
	if rack.None != 0 || rack.Single != 1 || rack.Plain != 2 || rack.Split != 3 || rack.Washout != 4 {
		t.Error("the numbers of the kinds")
	}
	for rows := 1; rows <= 4; rows++ {
		for gap := 1; gap <= 8; gap++ {
			r := rack.Rack{Rows: rows, Middle: 60 * (gap % 2), Gap: gap, Reach: gap}
			for _, leave := range subsets(allPins(r)) {
				if k := mustKind(t, r, leave); k != plainKind(r, leave) {
					t.Errorf("Kind of %v on %v: %d", leave, r, k)
				}
			}
		}
	}
}

// P2.1: the leaves of racks of each size, from a list of neighbours written out by hand, and leave by leave.
func TestCensus(t *testing.T) {
	for rows, want := range map[int][5]int{1: {1, 1}, 2: {1, 3, 4}, 3: {1, 6, 41, 5, 11}, 4: {1, 10, 482, 226, 305}} {
		r := rack.Rack{Rows: rows, Middle: 3 * rows, Gap: 2 * rows, Reach: rows}
		if rows > 1 {
			r.Links = []rack.Link{surely(0, 1), perhaps(1, 2)}
		}
		var counted [5]int
		for _, leave := range subsets(allPins(r)) {
			counted[plainKind(r, leave)]++
		}
		if n, e := rack.Census(r); n != want || n != counted || e != api.OK {
			t.Errorf("Census of %d rows: %v, %v, not %v or %v", rows, n, e, want, counted)
		}
	}
}

// P2.2: by hand.
func TestHit(t *testing.T) {
	for _, x := range []struct {
		links  []rack.Link
		pins   []int
		boards [4]int
		want   []int
	}{
		// Reach is 2: the boards 18 and 22 reach the pin over 20, 17 and 23 do not; each row has its own board.
		{nil, []int{0}, [4]int{18, 0, 0, 0}, nil}, {nil, []int{0}, [4]int{22, 0, 0, 0}, nil}, {nil, []int{0}, [4]int{17, 20, 20, 20}, []int{0}}, {nil, []int{0}, [4]int{23, 20, 20, 20}, []int{0}},
		{nil, tenPins(), [4]int{20, 17, 26, 11}, []int{2, 3, 4, 7, 8, 9}}, {nil, tenPins(), [4]int{60, 60, 60, 60}, tenPins()}, {nil, nil, [4]int{20, 17, 26, 11}, nil},
		// Chains, also those whose links are told from behind; who does not stand carries nobody.
		{[]rack.Link{surely(1, 2), surely(0, 1)}, []int{0, 1, 2, 3}, [4]int{20, 0, 0, 0}, []int{3}}, {[]rack.Link{surely(0, 1), surely(1, 2)}, []int{0, 2, 3}, [4]int{20, 0, 0, 0}, []int{2, 3}}, {[]rack.Link{surely(0, 1), surely(1, 2)}, []int{1, 2, 3}, [4]int{20, 0, 0, 0}, []int{1, 2, 3}},
		{[]rack.Link{surely(9, 0), surely(0, 6), surely(6, 9)}, []int{0, 6, 9}, [4]int{0, 0, 0, 29}, nil}, {[]rack.Link{surely(9, 0), surely(0, 6), surely(6, 9)}, []int{0, 6, 9}, [4]int{0, 0, 0, 0}, []int{0, 6, 9}}, {[]rack.Link{surely(9, 0)}, []int{0, 9}, [4]int{20, 0, 0, 0}, []int{9}},
	} {
		y := thrown{four(x.links...), x.pins, nil}
		for _, b := range x.boards {
			y.ball = append(y.ball, over(b, b))
		}
		if left := mustHit(t, y, truth{x.boards[:], yes(len(x.links))}); !slices.Equal(left, x.want) {
			t.Errorf("Hit of %v over %v: %v, not %v", x.pins, x.boards, left, x.want)
		}
	}
	// Each of two links between the same pins carries by itself.
	y := thrown{four(perhaps(0, 9), perhaps(0, 9)), []int{0, 9}, []rack.Range{over(20, 20), over(0, 0), over(0, 0), over(0, 0)}}
	for i, carries := range choices(y.Links) {
		var want []int
		if i == 3 {
			want = []int{9}
		}
		if left := mustHit(t, y, truth{[]int{20, 0, 0, 0}, carries}); !slices.Equal(left, want) {
			t.Errorf("Hit with %v: %v, not %v", carries, left, want)
		}
	}
}

// P2.2, P2.3, P2.4: what is told of balls is what all their truths tell.
func TestTruths(t *testing.T) {
	someThrown(1, 400, func(_ *rand.Rand, x thrown) {
		sure, may, sizes := slices.Clone(x.pins), []int(nil), rack.Range{Lo: len(x.pins)}
		can := map[[10]bool]bool{}
		for _, y := range truthsOf(x.Rack, x.ball) {
			left := plainLeft(x.Rack, x.pins, y)
			if got := mustHit(t, x, y); !slices.Equal(got, left) {
				t.Fatalf("Hit of %v by %v: %v, not %v", x, y, got, left)
			}
			sure = without(sure, left)
			may = append(may, without(without(x.pins, left), may)...)
			sizes.Lo, sizes.Hi = min(sizes.Lo, len(left)), max(sizes.Hi, len(left))
			can[mask(left)] = true
		}
		slices.Sort(may)
		if s, m := mustFalls(t, x); !slices.Equal(s, sure) || !slices.Equal(m, may) {
			t.Fatalf("Falls of %v: %v, %v, not %v, %v", x, s, m, sure, may)
		}
		if n := mustLeft(t, x); n != sizes {
			t.Fatalf("Left of %v: %v, not %v", x, n, sizes)
		}
		for _, leave := range subsets(allPins(x.Rack)) {
			if rack.CanLeave(x.Rack, x.pins, x.ball, leave) != can[mask(leave)] {
				t.Fatalf("CanLeave of %v by %v: not %v", leave, x, can[mask(leave)])
			}
		}
	})
}

func mask(pins []int) (m [10]bool) {
	for _, pin := range pins {
		m[pin] = true
	}
	return m
}

// P2.3: a pin may surely fall though none is sure to carry it, and which one hits it is not known.
func TestFalls(t *testing.T) {
	between := nowhere()
	between[2] = over(22, 24)
	wide := nowhere()
	wide[0] = over(14, 22)
	for _, x := range []struct {
		r         rack.Rack
		pins      []int
		ball      []rack.Range
		sure, may []int
		left      rack.Range
	}{
		{linked(), nil, nowhere(), nil, nil, over(0, 0)}, {linked(), tenPins(), nowhere(), nil, nil, over(10, 10)}, {four(), []int{0, 1}, wide, nil, []int{0}, over(1, 2)},
		// Over 22 the pin 4 falls, over 24 the pin 5; over 23 none of them, or with a longer reach both.
		{four(surely(4, 9), surely(5, 9)), []int{4, 5, 9}, between, nil, []int{4, 5, 9}, over(1, 3)},
		{rack.Rack{Rows: 4, Middle: 20, Gap: 3, Reach: 3, Links: []rack.Link{surely(4, 9), surely(5, 9)}}, []int{4, 5, 9}, between, []int{9}, []int{4, 5, 9}, over(0, 1)},
		{rack.Rack{Rows: 4, Middle: 20, Gap: 3, Reach: 3, Links: []rack.Link{surely(4, 9), perhaps(5, 9)}}, []int{4, 5, 9}, between, nil, []int{4, 5, 9}, over(0, 2)},
		{four(perhaps(0, 1), surely(1, 2)), []int{0, 1, 2}, []rack.Range{over(20, 20), over(0, 0), over(0, 0), over(0, 0)}, []int{0}, []int{0, 1, 2}, over(0, 2)},
		{four(perhaps(0, 1), surely(0, 1)), []int{0, 1}, []rack.Range{over(20, 20), over(0, 0), over(0, 0), over(0, 0)}, []int{0, 1}, []int{0, 1}, over(0, 0)},
		// The ranges at both ends of the boards, as wide as they may be; the pin 6 stands beside the boards, at -3.
		{rack.Rack{Rows: 4, Middle: 0, Gap: 1, Reach: 3}, tenPins(), []rack.Range{over(0, 8), over(52, 60), over(0, 0), over(0, 0)}, []int{3, 4, 5, 6, 7, 8, 9}, []int{0, 3, 4, 5, 6, 7, 8, 9}, over(2, 3)},
		{rack.Rack{Rows: 1, Middle: 60, Gap: 8, Reach: 10}, []int{0}, []rack.Range{over(52, 60)}, []int{0}, []int{0}, over(0, 0)},
		{rack.Rack{Rows: 1, Middle: 0, Gap: 8, Reach: 0}, []int{0}, []rack.Range{over(0, 8)}, nil, []int{0}, over(0, 1)},
	} {
		y := thrown{x.r, x.pins, x.ball}
		sure, may := mustFalls(t, y)
		if !slices.Equal(sure, x.sure) || !slices.Equal(may, x.may) {
			t.Errorf("Falls of %v: %v, %v", y, sure, may)
		}
		if n := mustLeft(t, y); n != x.left {
			t.Errorf("Left of %v: %v", y, n)
		}
	}
}

// P2.4: CanLeave is false for all that is not so.
func TestCanLeave(t *testing.T) {
	ball := nowhere()
	ball[0] = over(20, 28)
	r := four(perhaps(0, 1), surely(0, 2))
	for _, x := range []struct {
		r     rack.Rack
		pins  []int
		ball  []rack.Range
		leave []int
		want  bool
	}{
		{r, []int{0, 1, 2}, ball, []int{1}, true}, {r, []int{0, 1, 2}, ball, nil, true}, {r, []int{0, 1, 2}, ball, []int{0, 1, 2}, true}, {r, nil, ball, nil, true},
		{r, []int{0, 1, 2}, ball, []int{2}, false}, {r, []int{0, 1, 2}, ball, []int{1, 2}, false}, {r, []int{0, 1, 2}, ball, []int{0}, false}, {r, []int{0, 1, 2}, ball, []int{1, 3}, false}, {r, []int{0, 1, 2}, ball, []int{0, 1, 2, 3}, false},
		{r, []int{0, 1, 2}, ball, []int{1, 1}, false}, {r, []int{0, 1, 2}, ball, []int{2, 1, 0}, false}, {r, []int{0, 1, 2}, ball, []int{1, 10}, false}, {r, []int{0, 1, 2}, ball, []int{-1, 1}, false},
		{r, []int{0, 2, 1}, ball, []int{1}, false}, {r, []int{0, 1, 2, 10}, ball, []int{1, 10}, false}, {r, []int{0, 1, 2}, ball[:3], []int{1}, false}, {r, []int{0, 1, 2}, append(nowhere(), over(0, 0)), []int{1}, false},
		{r, []int{0, 1, 2}, []rack.Range{over(20, 29), over(0, 0), over(0, 0), over(0, 0)}, []int{1}, false}, {r, []int{0, 1, 2}, []rack.Range{over(20, 19), over(0, 0), over(0, 0), over(0, 0)}, []int{0, 1, 2}, false},
		{four(surely(0, 0)), []int{0, 1, 2}, ball, []int{0, 1, 2}, false}, {four(slices.Repeat([]rack.Link{perhaps(0, 1)}, 7)...), []int{0, 1, 2}, ball, []int{0, 1, 2}, false}, {rack.Rack{}, nil, nil, nil, false},
	} {
		if rack.CanLeave(x.r, x.pins, x.ball, x.leave) != x.want {
			t.Errorf("CanLeave of %v by %v on %v, %v: not %v", x.leave, x.ball, x.r, x.pins, x.want)
		}
	}
}
