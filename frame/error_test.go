package frame_test

import (
	"math"
	"math/rand"
	"reflect"
	"slices"
	"testing"

	"kingpin/api"
	"kingpin/frame"
)

// isZero tells whether a result is of no value; a list without elements is one.
func isZero(x any) bool {
	v := reflect.ValueOf(x)
	return v.IsZero() || v.Kind() == reflect.Slice && v.Len() == 0
}

func wantError(t *testing.T, call string, got, want api.Errno, results ...any) {
	t.Helper()
	if got != want {
		t.Errorf("%s: %v, not %v", call, got, want)
	}
	for _, x := range results {
		if !isZero(x) {
			t.Errorf("%s: %v with %v", call, x, got)
		}
	}
}

// wantErrors asks all calls with a sheet.
func wantErrors(t *testing.T, l frame.Law, balls []int, want api.Errno) {
	t.Helper()
	n, e := frame.Bad(l, balls)
	wantError(t, "Bad", e, want, n)
	wantReadErrors(t, l, balls, want)
}

func wantReadErrors(t *testing.T, l frame.Law, balls []int, want api.Errno) {
	t.Helper()
	g, e := frame.Read(l, balls)
	wantError(t, "Read", e, want, g)
	s, e := frame.Span(l, balls)
	wantError(t, "Span", e, want, s)
	b, e := frame.Shows(l, balls, -1)
	wantError(t, "Shows", e, want, b)
}

func wantAheadError(t *testing.T, l frame.Law, sheets [][]int, want api.Errno) {
	t.Helper()
	may, sure, e := frame.Ahead(l, sheets)
	wantError(t, "Ahead", e, want, may, sure)
}

// The section Errors, R1 and R2: the first question that applies, and no other results.
func TestErrors(t *testing.T) {
	long, tooMany := make([]int, api.MaxFrameBalls+1), make([][]int, api.MaxFramePlayers+1)
	long[0] = 11
	for _, l := range badLaws() {
		wantErrors(t, l, nil, api.ErrArg)
		wantErrors(t, l, []int{11}, api.ErrArg)
		wantErrors(t, l, long, api.ErrArg)
		wantAheadError(t, l, nil, api.ErrArg)
		wantAheadError(t, l, [][]int{{1}}, api.ErrArg)
		wantAheadError(t, l, [][]int{long}, api.ErrArg)
		wantAheadError(t, l, tooMany, api.ErrArg)
	}
	wantErrors(t, ten(), long, api.ErrLimit)
	wantErrors(t, law(10, 10, 3, 1), make([]int, 1000), api.ErrLimit)
	for _, balls := range [][]int{{11}, {7, 4}, {-2}, times(13, 10), times(21, 0), make([]int, api.MaxFrameBalls), {math.MinInt}, {math.MaxInt}} {
		wantReadErrors(t, ten(), balls, api.ErrLaw)
		wantAheadError(t, ten(), [][]int{nil, balls}, api.ErrLaw)
		wantAheadError(t, ten(), [][]int{balls, nil, nil, nil, nil, nil}, api.ErrLaw)
		wantAheadError(t, ten(), append(slices.Clone(tooMany), balls), api.ErrLimit)
		wantAheadError(t, ten(), [][]int{balls, long}, api.ErrLimit)
	}
	wantAheadError(t, ten(), tooMany, api.ErrLimit)
	wantAheadError(t, ten(), [][]int{long, nil}, api.ErrLimit)
	wantAheadError(t, ten(), nil, api.ErrArg)
	wantAheadError(t, ten(), [][]int{}, api.ErrArg)
	n, e := frame.Bad(ten(), []int{10, 3})
	wantError(t, "Bad", e, api.ErrNone, n)
	for _, final := range []int{-1, 301, math.MinInt, math.MaxInt, math.MinInt + 10} {
		b, e := frame.Shows(ten(), []int{10, 3}, final)
		wantError(t, "Shows", e, api.ErrFail, b)
	}
}

// R3: nil and a list without elements are the same.
func TestEmpty(t *testing.T) {
	a, e := frame.Read(ten(), nil)
	b, f := frame.Read(ten(), []int{})
	if len(a.Frames)+len(a.Counts)+len(b.Frames)+len(b.Counts) != 0 || a.Standing != b.Standing || e != f {
		t.Errorf("Read of nothing: %v, %v, and %v, %v", a, e, b, f)
	}
	if mustSpan(t, ten(), nil) != mustSpan(t, ten(), []int{}) {
		t.Error("Span of nothing")
	}
}

// R4: arguments are not written to, and results share no memory.
func TestMemory(t *testing.T) {
	sheet := append(make([]int, 0, 50), 10, 7, 3, 9, foul, 4)
	before := slices.Clone(sheet[:50])
	g := mustRead(t, ten(), sheet)
	frames := make([][]int, len(g.Frames))
	for i, balls := range g.Frames {
		frames[i] = slices.Clone(balls)
	}
	counts := slices.Clone(g.Counts)
	for i := range g.Frames {
		for j := range g.Frames[i] {
			g.Frames[i][j] = 77
		}
		_ = append(g.Frames[i], 77, 77)
		for j := i + 1; j < len(frames); j++ {
			if !slices.Equal(g.Frames[j], frames[j]) {
				t.Errorf("frame %d is %v behind a change of frame %d", j, g.Frames[j], i)
			}
		}
	}
	if !slices.Equal(g.Counts, counts) || !slices.Equal(sheet[:50], before) {
		t.Errorf("counts %v, sheet %v", g.Counts, sheet)
	}
	b, _ := frame.Shows(ten(), sheet, 100)
	b[0] = 77
	sheets := [][]int{sheet[:5:50], sheet}
	may, sure, _ := frame.Ahead(ten(), sheets)
	may = append(may, sure...)
	may[0] = 77
	if !slices.Equal(sheet[:50], before) || !slices.Equal(sheets[0], before[:5]) {
		t.Errorf("sheet %v, sheets %v", sheet, sheets)
	}
	again := mustRead(t, ten(), sheet)
	if !slices.EqualFunc(again.Frames, frames, slices.Equal) || !slices.Equal(again.Counts, counts) {
		t.Errorf("Read again: %v", again)
	}
}

// P1 and the Rules' first lines: whatever the arguments are, each call returns, and returns the same again.
func TestAnyArguments(t *testing.T) {
	r := rand.New(rand.NewSource(11))
	edges := []int{math.MinInt, math.MinInt + 1, -2, -1, 0, 1, 2, 3, 5, 9, 10, 11, 40, 41, 300, 301, math.MaxInt - 1, math.MaxInt}
	some := func() int { return edges[r.Intn(len(edges))] }
	list := func() []int {
		balls := make([]int, r.Intn(45))
		for i := range balls {
			balls[i] = r.Intn(4) - 1
			if r.Intn(20) == 0 {
				balls[i] = some()
			}
		}
		return balls
	}
	for range 3000 {
		l := law(some(), some(), some(), some())
		if r.Intn(2) == 0 {
			l = law(1+r.Intn(10), 10, 2+r.Intn(2), 1+r.Intn(10))
		}
		sheets := make([][]int, r.Intn(9))
		for i := range sheets {
			sheets[i] = list()
		}
		balls, final := list(), some()
		if !reflect.DeepEqual(askAll(l, balls, sheets, final), askAll(l, balls, sheets, final)) {
			t.Fatalf("not the same again: %v, %v, %v, %d", l, balls, sheets, final)
		}
	}
}

func askAll(l frame.Law, balls []int, sheets [][]int, final int) []any {
	n, e1 := frame.Bad(l, balls)
	g, e2 := frame.Read(l, balls)
	s, e3 := frame.Span(l, balls)
	b, e4 := frame.Shows(l, balls, final)
	may, sure, e5 := frame.Ahead(l, sheets)
	return []any{frame.CheckLaw(l), n, e1, g, e2, s, e3, b, e4, may, sure, e5}
}
