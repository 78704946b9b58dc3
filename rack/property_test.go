package rack_test

import (
	"math/rand"
	"slices"
	"testing"

	"kingpin/api"
	"kingpin/rack"
)

// P2.6: in each truth all pins fall that surely do, and none that may not; the ends of Left are reached.
func TestWhateverHappens(t *testing.T) {
	someThrown(11, 300, func(_ *rand.Rand, x thrown) {
		sure, may := mustFalls(t, x)
		sizes, low, high := mustLeft(t, x), false, false
		for _, y := range truthsOf(x.Rack, x.ball) {
			left := mustHit(t, x, y)
			fallen := without(x.pins, left)
			if !subset(left, x.pins) || !slices.IsSorted(left) || !subset(sure, fallen) || !subset(fallen, may) {
				t.Fatalf("Hit of %v by %v: %v; Falls: %v, %v", x, y, left, sure, may)
			}
			if len(left) < sizes.Lo || len(left) > sizes.Hi {
				t.Fatalf("Hit of %v by %v: %v; Left: %v", x, y, left, sizes)
			}
			low, high = low || len(left) == sizes.Lo, high || len(left) == sizes.Hi
			if !rack.CanLeave(x.Rack, x.pins, x.ball, left) {
				t.Fatalf("Hit of %v by %v: %v, which CanLeave denies", x, y, left)
			}
		}
		if !low || !high {
			t.Fatalf("Left of %v: %v, not reached", x, sizes)
		}
	})
}

// P2.7: what surely falls may; what may falls in some truth, what does not surely is left in some.
func TestSureAndMay(t *testing.T) {
	someThrown(12, 300, func(_ *rand.Rand, x thrown) {
		sure, may := mustFalls(t, x)
		var fell, stayed [10]bool
		for _, y := range truthsOf(x.Rack, x.ball) {
			left := mustHit(t, x, y)
			for _, pin := range x.pins {
				fell[pin] = fell[pin] || !slices.Contains(left, pin)
				stayed[pin] = stayed[pin] || slices.Contains(left, pin)
			}
		}
		if !subset(sure, may) {
			t.Fatalf("Falls of %v: %v, %v", x, sure, may)
		}
		for _, pin := range x.pins {
			if fell[pin] != slices.Contains(may, pin) || stayed[pin] == slices.Contains(sure, pin) {
				t.Fatalf("Falls of %v: %v, %v, but %d fell %v, stayed %v", x, sure, may, pin, fell[pin], stayed[pin])
			}
		}
	})
}

// wider is the same with a wider range of a row, if it can be wider.
func (x thrown) wider(row int) thrown {
	x.ball = slices.Clone(x.ball)
	if b := &x.ball[row]; b.Lo > 0 && b.Hi-b.Lo < 8 {
		b.Lo--
	} else if b.Hi < 60 && b.Hi-b.Lo < 8 {
		b.Hi++
	}
	return x
}

// linked is the same with a link more.
func (x thrown) linked(l rack.Link) thrown {
	x.Links = append(slices.Clone(x.Links), l)
	return x
}

// P2.8: less is known behind a wider range or a link more; more falls behind a greater Reach or a link that is sure.
func TestWider(t *testing.T) {
	someThrown(13, 400, func(r *rand.Rand, x thrown) {
		sure, may := mustFalls(t, x)
		sizes := mustLeft(t, x)
		less := []thrown{x.wider(r.Intn(x.Rows))}
		if pins := len(spots(x.Rack)); pins > 1 {
			from := r.Intn(pins)
			less = append(less, x.linked(perhaps(from, (from+1+r.Intn(pins-1))%pins)))
		}
		for _, y := range less {
			s, m := mustFalls(t, y)
			n := mustLeft(t, y)
			if !subset(s, sure) || !subset(may, m) || n.Lo > sizes.Lo || n.Hi < sizes.Hi {
				t.Fatalf("Falls, Left of %v: %v, %v, %v, but of %v: %v, %v, %v", x, sure, may, sizes, y, s, m, n)
			}
		}
		longer, surer := x, x
		longer.Reach = min(10, x.Reach+1)
		surer.Links = slices.Clone(x.Links)
		for i := range surer.Links {
			surer.Links[i].Sure = surer.Links[i].Sure || r.Intn(2) == 0
		}
		for _, y := range []thrown{longer, surer} {
			if s, _ := mustFalls(t, y); !subset(sure, s) {
				t.Fatalf("Falls of %v: %v, but of %v: %v", x, sure, y, s)
			}
		}
	})
}

// mirroredPins are the pins of the rack turned over.
func mirroredPins(r rack.Rack, pins []int) []int {
	var list []int
	at := spots(r)
	for _, pin := range pins {
		list = append(list, pin-at[pin].k+at[pin].row-at[pin].k)
	}
	slices.Sort(list)
	return list
}

func (x thrown) mirrored() thrown {
	y := x
	y.Links, y.ball = slices.Clone(x.Links), slices.Clone(x.ball)
	y.pins = mirroredPins(x.Rack, x.pins)
	for i, l := range x.Links {
		y.Links[i].From, y.Links[i].To = mirroredPins(x.Rack, []int{l.From})[0], mirroredPins(x.Rack, []int{l.To})[0]
	}
	for row, b := range x.ball {
		y.ball[row] = over(2*x.Middle-b.Hi, 2*x.Middle-b.Lo)
	}
	return y
}

// P2.9: on the rack turned over the same falls, mirrored; kinds stay.
func TestTurned(t *testing.T) {
	turned := 0
	someThrown(14, 600, func(_ *rand.Rand, x thrown) {
		y := x.mirrored()
		if mustKind(t, x.Rack, x.pins) != mustKind(t, y.Rack, y.pins) {
			t.Fatalf("Kind of %v is not that of %v", x.pins, y.pins)
		}
		if slices.ContainsFunc(y.ball, func(b rack.Range) bool { return b.Lo < 0 || b.Hi > 60 }) {
			return
		}
		turned++
		s, m := mustFalls(t, x)
		sure, may := mustFalls(t, y)
		if !slices.Equal(mirroredPins(x.Rack, s), sure) || !slices.Equal(mirroredPins(x.Rack, m), may) || mustLeft(t, x) != mustLeft(t, y) {
			t.Fatalf("Falls of %v: %v, %v; turned over: %v, %v", x, s, m, sure, may)
		}
	})
	if turned < 100 {
		t.Errorf("only %d racks turned over", turned)
	}
}

// P2.10: by a ball over just the boards of a straight one that converts all pins surely fall; without links those of each lesser leave, too.
func TestStraight(t *testing.T) {
	checked := 0
	someThrown(15, 600, func(r *rand.Rand, x thrown) {
		leave := x.pins[:min(len(x.pins), 1+r.Intn(3))]
		l, e := rack.Convert(x.Rack, leave, false)
		if e == api.ErrFail {
			return
		}
		if e != api.OK || !rack.ProveConvert(x.Rack, leave, l) {
			t.Fatalf("Convert of %v on %v: %v, %v", leave, x.Rack, l, e)
		}
		if m, e := rack.Convert(x.Rack, leave, true); e != api.OK || m.Start > l.Start || m.Start == l.Start && m.Drift > l.Drift {
			t.Fatalf("Convert of %v on %v: %v, but perhaps %v, %v", leave, x.Rack, l, m, e)
		}
		if len(x.Links) == 0 {
			for _, fewer := range subsets(leave) {
				if !rack.ProveConvert(x.Rack, fewer, l) {
					t.Fatalf("Convert of %v on %v: %v, which is none of %v", leave, x.Rack, l, fewer)
				}
			}
		}
		if last := l.Start + (x.Rows-1)*l.Drift; last < 0 || last > 60 {
			return
		}
		checked++
		y := thrown{x.Rack, leave, nil}
		for row := range x.Rows {
			y.ball = append(y.ball, over(l.Start+row*l.Drift, l.Start+row*l.Drift))
		}
		if sure, _ := mustFalls(t, y); !slices.Equal(sure, leave) {
			t.Fatalf("Falls of %v: %v", y, sure)
		}
	})
	if checked < 100 {
		t.Errorf("only %d balls looked at", checked)
	}
}

// P2.11: each pin that falls in a truth still falls in it if more pins stand.
func TestTwoParts(t *testing.T) {
	someThrown(16, 1500, func(r *rand.Rand, x thrown) {
		y := someTruth(r, x.Rack, x.ball)
		fallen := without(x.pins, mustHit(t, x, y))
		part := x
		part.pins = slices.DeleteFunc(slices.Clone(x.pins), func(int) bool { return r.Intn(3) == 0 })
		if of := without(part.pins, mustHit(t, part, y)); !subset(of, fallen) {
			t.Fatalf("by %v of %v fall %v, but of %v %v", y, x, fallen, part.pins, of)
		}
	})
}

// P2.12: no Split has the pin 0, no Washout lacks it; together there are 2 to the n leaves.
func TestLaw(t *testing.T) {
	for rows := 1; rows <= 4; rows++ {
		r := rack.Rack{Rows: rows, Middle: 30, Gap: 9 - rows, Reach: 1}
		var counted [5]int
		for _, leave := range subsets(allPins(r)) {
			k := mustKind(t, r, leave)
			counted[k]++
			if head := slices.Contains(leave, 0); k == rack.Split && head || k == rack.Washout && !head {
				t.Errorf("Kind of %v: %d", leave, k)
			}
		}
		pins := rows * (rows + 1) / 2
		n, e := rack.Census(r)
		if sum := n[0] + n[1] + n[2] + n[3] + n[4]; e != api.OK || n != counted || sum != 1<<pins || n[rack.None] != 1 || n[rack.Single] != pins {
			t.Errorf("Census of %d rows: %v, %v", rows, n, e)
		}
	}
	// In one piece, with the pin 0 and without it, whatever the links and the gap are.
	for _, leave := range [][]int{{0, 1}, {1, 2}, {0, 2, 4, 7}, {5, 9}, {1, 2, 3, 5}} {
		if k := mustKind(t, linked(), leave); k != rack.Plain {
			t.Errorf("Kind of %v: %d", leave, k)
		}
	}
}
