package rack_test

import (
	"math"
	"math/rand"
	"reflect"
	"slices"
	"testing"

	"kingpin/api"
	"kingpin/rack"
)

// asked is what the calls are asked.
type asked struct {
	r       rack.Rack
	pins    []int
	ball    []rack.Range
	boards  []int
	carries []bool
	may     bool
	line    rack.Line
}

// good has arguments without an error, of a rack with two links.
func good() asked {
	return asked{four(surely(0, 1), perhaps(1, 3)), []int{0, 1, 3}, []rack.Range{over(20, 21), over(0, 8), over(52, 60), over(30, 30)}, []int{20, 8, 60, 30}, []bool{true, false}, false, rack.Line{Start: 17}}
}

type answer struct {
	e       api.Errno
	results []any
}

// ask asks all calls that can have an error.
func ask(x asked) map[string]answer {
	kind, e1 := rack.Kind(x.r, x.pins)
	census, e2 := rack.Census(x.r)
	hit, e3 := rack.Hit(x.r, x.pins, x.ball, x.boards, x.carries)
	sure, may, e4 := rack.Falls(x.r, x.pins, x.ball)
	left, e5 := rack.Left(x.r, x.pins, x.ball)
	line, e6 := rack.Convert(x.r, x.pins, x.may)
	return map[string]answer{
		"CheckRack": {rack.CheckRack(x.r), nil},
		"Kind":      {e1, []any{kind}},
		"Census":    {e2, []any{census}},
		"Hit":       {e3, []any{hit}},
		"Falls":     {e4, []any{sure, may}},
		"Left":      {e5, []any{left}},
		"Convert":   {e6, []any{line}},
	}
}

// wantErrors asks all calls: the named ones have the error, and no results; the others have none.
func wantErrors(t *testing.T, x asked, want api.Errno, calls ...string) {
	t.Helper()
	for call, a := range ask(x) {
		if !slices.Contains(calls, call) {
			if a.e != api.OK {
				t.Errorf("%s of %v: %v", call, x, a.e)
			}
			continue
		}
		if a.e != want {
			t.Errorf("%s of %v: %v, not %v", call, x, a.e, want)
		}
		for _, result := range a.results {
			if v := reflect.ValueOf(result); !v.IsZero() && (v.Kind() != reflect.Slice || v.Len() > 0) {
				t.Errorf("%s of %v: %v with %v", call, x, result, a.e)
			}
		}
	}
}

var (
	withRack = []string{"CheckRack", "Kind", "Census", "Hit", "Falls", "Left", "Convert"}
	withPins = []string{"Kind", "Hit", "Falls", "Left", "Convert"}
	withBall = []string{"Hit", "Falls", "Left"}
)

func badRacks() []rack.Rack {
	list := []rack.Rack{{}, {Rows: math.MaxInt, Gap: 1}, {Rows: math.MinInt, Gap: 1}, {Rows: 4, Gap: math.MaxInt}, {Rows: 4, Gap: math.MinInt}, {Rows: 4, Gap: 3, Middle: math.MaxInt}, {Rows: 4, Gap: 3, Middle: math.MinInt}, {Rows: 4, Gap: 3, Reach: math.MaxInt}, {Rows: 4, Gap: 3, Reach: math.MinInt}}
	for _, l := range []rack.Link{surely(0, 0), perhaps(9, 9), surely(0, 10), surely(10, 0), perhaps(-1, 0), perhaps(0, -1), surely(math.MinInt, math.MaxInt)} {
		list = append(list, four(surely(0, 1), l))
	}
	return list
}

func manyLinks() [][]rack.Link {
	sure := slices.Repeat([]rack.Link{surely(0, 1)}, 13)
	return [][]rack.Link{sure, append(slices.Clone(sure), perhaps(0, 0)), slices.Repeat([]rack.Link{perhaps(0, 1)}, 7), make([]rack.Link, 7), make([]rack.Link, 5000)}
}

func badPins() [][]int {
	return [][]int{{10}, {-1}, {0, 0}, {1, 0}, {0, 3, 3}, {0, 2, 1}, {3, 2, 1}, {0, 1, 10}, {-1, 1}, {math.MinInt, 0}, {0, math.MaxInt}, make([]int, 11)}
}

func badBalls() [][]rack.Range {
	list := [][]rack.Range{nil, {}, make([]rack.Range, 3), make([]rack.Range, 5), make([]rack.Range, 1000)}
	for _, b := range []rack.Range{over(1, 0), over(60, 59), over(-1, 0), over(-1, -1), over(60, 61), over(61, 61), over(20, 29), over(0, 9), over(51, 60), over(0, 60), over(math.MinInt, 0), over(0, math.MaxInt), over(math.MinInt, math.MaxInt), over(math.MaxInt, math.MinInt), over(math.MaxInt, 0)} {
		for row := range 4 {
			ball := nowhere()
			ball[row] = b
			list = append(list, ball)
		}
	}
	return list
}

// The section Errors, R1 and R2: the first question that applies, and no other results.
func TestErrors(t *testing.T) {
	wantErrors(t, good(), api.OK)
	for _, links := range manyLinks() {
		x := good()
		x.r.Links = links
		wantErrors(t, x, api.ErrLimit, withRack...)
		// Also if the rack is not valid otherwise, and nothing else is right.
		wantErrors(t, asked{r: rack.Rack{Links: links}, pins: []int{-1}}, api.ErrLimit, withRack...)
	}
	for _, r := range badRacks() {
		x := good()
		x.r = r
		wantErrors(t, x, api.ErrArg, withRack...)
		wantErrors(t, asked{r: r, pins: []int{-1}}, api.ErrArg, withRack...)
	}
	for _, pins := range badPins() {
		x := good()
		x.pins = pins
		wantErrors(t, x, api.ErrRange, withPins...)
		x.ball, x.boards = nil, nil
		wantErrors(t, x, api.ErrRange, withPins...)
	}
	for _, ball := range badBalls() {
		x := good()
		x.ball = ball
		x.boards = nil
		for _, b := range ball {
			x.boards = append(x.boards, b.Lo)
		}
		wantErrors(t, x, api.ErrRange, withBall...)
	}
}

// For Hit alone: what is no truth of the ball.
func TestNoTruth(t *testing.T) {
	for _, boards := range [][]int{nil, {20, 8, 60}, {20, 8, 60, 30, 0}, {19, 8, 60, 30}, {22, 8, 60, 30}, {20, 9, 60, 30}, {20, -1, 60, 30}, {20, 8, 51, 30}, {20, 8, 61, 30}, {20, 8, 60, 29}, {20, 8, 60, 31}, {math.MinInt, 8, 60, 30}, {20, 8, 60, math.MaxInt}} {
		x := good()
		x.boards = boards
		wantErrors(t, x, api.ErrRange, "Hit")
	}
	for _, carries := range [][]bool{nil, {true}, {true, true, true}, {false, true}, {false, false}} {
		x := good()
		x.carries = carries
		wantErrors(t, x, api.ErrRange, "Hit")
	}
	x := good()
	x.r.Links = []rack.Link{perhaps(1, 3), surely(0, 1)}
	wantErrors(t, x, api.ErrRange, "Hit")
	x.carries = []bool{false, true}
	wantErrors(t, x, api.OK)
}

// For Convert alone, behind what is asked of all.
func TestNoBall(t *testing.T) {
	x := good()
	x.pins = []int{6, 9}
	wantErrors(t, x, api.ErrFail, "Convert")
	x.may = true
	wantErrors(t, x, api.ErrFail, "Convert")
	x.pins = []int{9, 6}
	wantErrors(t, x, api.ErrRange, withPins...)
	x = good()
	x.r.Links[0].Sure, x.r.Reach = false, 1
	x.pins, x.r.Gap = []int{0, 1}, 8
	wantErrors(t, x, api.ErrFail, "Convert")
	x.may = true
	wantErrors(t, x, api.OK)
}

// R3: nil and a list without elements are the same.
func TestEmpty(t *testing.T) {
	x := good()
	x.pins, x.carries, x.r.Links = nil, nil, nil
	y := x
	y.pins, y.carries, y.r.Links = []int{}, []bool{}, []rack.Link{}
	wantErrors(t, x, api.OK)
	wantErrors(t, y, api.OK)
	for _, z := range []asked{x, y} {
		left, _ := rack.Hit(z.r, z.pins, z.ball, z.boards, z.carries)
		sure, may, _ := rack.Falls(z.r, z.pins, z.ball)
		n, _ := rack.Left(z.r, z.pins, z.ball)
		if len(left)+len(sure)+len(may)+n.Lo+n.Hi > 0 || !rack.CanLeave(z.r, z.pins, z.ball, nil) || !rack.CanLeave(z.r, z.pins, z.ball, []int{}) || !rack.ProveConvert(z.r, z.pins, z.line) {
			t.Errorf("of no pins: %v, %v, %v, %v", left, sure, may, n)
		}
	}
}

// copied has no memory with x in common.
func copied(x asked) asked {
	x.r.Links, x.pins, x.ball = slices.Clone(x.r.Links), slices.Clone(x.pins), slices.Clone(x.ball)
	x.boards, x.carries = slices.Clone(x.boards), slices.Clone(x.carries)
	return x
}

// R4: arguments are not written to, and results share no memory.
func TestMemory(t *testing.T) {
	x := good()
	x.pins = append(make([]int, 0, 30), x.pins...)
	x.r.Links = append(make([]rack.Link, 0, 30), x.r.Links...)
	before := copied(x)
	first := ask(x)
	for call, a := range ask(x) {
		for i, result := range a.results {
			if list, ok := result.([]int); ok {
				for j := range list {
					list[j] = -7
				}
				_ = append(list, -7, -7, -7)
			}
			if call == "Falls" && i == 0 && !reflect.DeepEqual(a.results[1], first[call].results[1]) {
				t.Errorf("Falls: %v behind a change of what surely falls", a.results[1])
			}
		}
	}
	rack.CanLeave(x.r, x.pins, x.ball, x.pins)
	rack.ProveConvert(x.r, x.pins, x.line)
	if !reflect.DeepEqual(x, before) || slices.Max(x.pins[:30]) != 3 || x.pins[:30][3] != 0 || x.r.Links[:30][2] != (rack.Link{}) {
		t.Errorf("the arguments are %v behind the calls, not %v", x, before)
	}
	if again := ask(x); !reflect.DeepEqual(again, first) {
		t.Errorf("the results are %v again, not %v", again, first)
	}
}

// P1 and the Rules' first lines: whatever the arguments are, each call returns, and returns the same again.
func TestAnyArguments(t *testing.T) {
	r := rand.New(rand.NewSource(17))
	edges := []int{math.MinInt, math.MinInt + 1, -3, -2, -1, 0, 1, 2, 3, 4, 5, 8, 9, 10, 11, 52, 60, 61, math.MaxInt - 1, math.MaxInt}
	number := func() int {
		if r.Intn(3) > 0 {
			return r.Intn(9)
		}
		return edges[r.Intn(len(edges))]
	}
	for range 4000 {
		x := good()
		for range r.Intn(4) {
			switch r.Intn(7) {
			case 0:
				x.r = rack.Rack{Rows: number(), Middle: number(), Gap: number(), Reach: number()}
			case 1:
				x.r.Links = append(x.r.Links, slices.Repeat([]rack.Link{{From: number(), To: number(), Sure: r.Intn(2) > 0}}, r.Intn(9))...)
			case 2:
				x.pins = slices.Repeat([]int{number(), number(), number()}, r.Intn(4))
			case 3:
				x.ball[r.Intn(4)] = over(number(), number())
			case 4:
				x.ball, x.boards = x.ball[:r.Intn(4)], x.boards[:r.Intn(4)]
				x.ball = append(x.ball, over(number(), number()), over(0, 0), over(1, 1), over(2, 3))
			case 5:
				x.carries = slices.Repeat([]bool{true}, r.Intn(9))
			case 6:
				x.line, x.may = rack.Line{Start: number(), Drift: number()}, true
			}
		}
		y := copied(x)
		if !reflect.DeepEqual(ask(x), ask(y)) || rack.CanLeave(x.r, x.pins, x.ball, x.boards) != rack.CanLeave(y.r, y.pins, y.ball, y.boards) || rack.ProveConvert(x.r, x.pins, x.line) != rack.ProveConvert(y.r, y.pins, y.line) {
			t.Fatalf("not the same again: %v", x)
		}
		if !reflect.DeepEqual(x, y) {
			t.Fatalf("written to: %v, not %v", x, y)
		}
	}
}
