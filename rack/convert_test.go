package rack_test

import (
	"math"
	"math/rand"
	"testing"

	"kingpin/api"
	"kingpin/rack"
)

// P2.5: by hand; the examples of the chapter first.
func TestConvert(t *testing.T) {
	low := rack.Rack{Rows: 4, Middle: 0, Gap: 1, Reach: 0}
	high := rack.Rack{Rows: 4, Middle: 60, Gap: 1, Reach: 0}
	for _, x := range []struct {
		r            rack.Rack
		leave        []int
		start, drift int
		may          bool
	}{
		{linked(), []int{1, 3, 6}, 14, 1, false}, {linked(), []int{1, 3, 6}, 12, 3, true},
		// Nothing to fell: the first ball of all.
		{linked(), nil, 0, -3, false}, {low, nil, 0, -3, true},
		// A pin of the row 0 falls by any drift, one of the row 3 only by those that bring the ball there.
		{four(), []int{0}, 18, -3, false}, {four(), []int{9}, 18, 3, false}, {four(), []int{6}, 0, 3, false}, {four(), []int{2, 5}, 18, 3, false},
		// Balls that leave the boards: over -1, -2 and -3, and over 63.
		{low, []int{0, 1, 3, 6}, 0, -1, false}, {low, []int{6}, 0, -1, false}, {high, []int{0, 2, 5, 9}, 60, 1, false}, {high, []int{9}, 54, 3, false},
		{four(surely(4, 9)), []int{4, 9}, 12, 3, false}, {four(perhaps(4, 9)), []int{4, 9}, 12, 3, true},
		// The link that is sure is gone, as its From does not stand.
		{four(surely(0, 9)), []int{9}, 18, 3, false},
	} {
		l, e := rack.Convert(x.r, x.leave, x.may)
		if l != (rack.Line{Start: x.start, Drift: x.drift}) || e != api.OK {
			t.Errorf("Convert of %v on %v, %v: %v, %v", x.leave, x.r, x.may, l, e)
		}
	}
	for _, x := range []struct {
		r     rack.Rack
		leave []int
		may   bool
	}{
		{linked(), []int{6, 9}, false}, {linked(), []int{6, 9}, true}, {four(), []int{4, 9}, true}, {four(perhaps(4, 9)), []int{4, 9}, false}, {four(surely(9, 4), perhaps(0, 6)), []int{6, 9}, true}, {four(), tenPins(), true},
		{rack.Rack{Rows: 4, Middle: 60, Gap: 8, Reach: 0}, []int{9}, false}, {rack.Rack{Rows: 4, Middle: 0, Gap: 8, Reach: 0}, []int{6}, true},
	} {
		if l, e := rack.Convert(x.r, x.leave, x.may); l != (rack.Line{}) || e != api.ErrFail {
			t.Errorf("Convert of %v on %v, %v: %v, %v", x.leave, x.r, x.may, l, e)
		}
	}
}

// P2.5 and P2.10: Convert returns the first of all straight balls that convert; when it fails there is none.
func TestFirstBall(t *testing.T) {
	r := rand.New(rand.NewSource(2))
	for range 150 {
		k := someRack(r, 3)
		leave := somePins(r, k)
		if r.Intn(3) > 0 && len(leave) > 2 {
			from := r.Intn(len(leave) - 1)
			leave = leave[from : from+2]
		}
		for _, may := range []bool{false, true} {
			first, want := rack.Line{}, api.ErrFail
			for _, l := range lines() {
				converts := plainConverts(k, leave, l, may)
				if converts && want == api.ErrFail {
					first, want = l, api.OK
				}
				if !may && rack.ProveConvert(k, leave, l) != converts {
					t.Fatalf("ProveConvert of %v on %v by %v: not %v", leave, k, l, converts)
				}
			}
			if l, e := rack.Convert(k, leave, may); l != first || e != want {
				t.Fatalf("Convert of %v on %v, %v: %v, %v, not %v, %v", leave, k, may, l, e, first, want)
			}
		}
	}
}

// P2.5: ProveConvert is false for all that is not so.
func TestProveConvert(t *testing.T) {
	seven := make([]rack.Link, 7)
	for _, x := range []struct {
		r            rack.Rack
		leave        []int
		start, drift int
		want         bool
	}{
		{linked(), []int{1, 3, 6}, 14, 1, true}, {linked(), []int{1, 3, 6}, 12, 3, false}, {linked(), []int{3, 6}, 20, -3, true}, {linked(), []int{3, 6}, 22, -4, false}, {linked(), []int{3, 6}, 8, 4, false},
		{linked(), nil, 0, 0, true}, {linked(), nil, 60, 3, true}, {linked(), nil, 60, -3, true}, {linked(), nil, 61, 0, false}, {linked(), nil, -1, 0, false}, {linked(), nil, 0, 4, false}, {linked(), nil, 0, -4, false},
		{linked(), nil, math.MinInt, 0, false}, {linked(), nil, math.MaxInt, 3, false}, {linked(), nil, 0, math.MinInt, false}, {linked(), nil, 60, math.MaxInt, false},
		{linked(), []int{3, 3}, 20, -3, false}, {linked(), []int{6, 3}, 20, -3, false}, {linked(), []int{-1}, 20, -3, false}, {linked(), []int{10}, 20, -3, false},
		{four(surely(0, 0)), nil, 0, 0, false}, {four(seven...), nil, 0, 0, false}, {rack.Rack{Rows: 5, Gap: 1}, nil, 0, 0, false}, {rack.Rack{}, nil, 0, 0, false},
	} {
		if rack.ProveConvert(x.r, x.leave, rack.Line{Start: x.start, Drift: x.drift}) != x.want {
			t.Errorf("ProveConvert of %v on %v by %d, %d: not %v", x.leave, x.r, x.start, x.drift, x.want)
		}
	}
}
