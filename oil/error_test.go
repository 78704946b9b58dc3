package oil_test

import (
	"math"
	"math/rand"
	"reflect"
	"slices"
	"testing"

	"kingpin/api"
	"kingpin/oil"
)

// asked is all that calls may be given.
type asked struct {
	oil.Lane
	balls, wear [][]int
	line        oil.Line
	block       []oil.Line
	plan        []int
}

type answer struct {
	e       api.Errno
	results []any
}

func (x asked) calls() map[string]answer {
	pattern, e1 := oil.Play(x.Lane, x.balls, x.wear)
	least, most, e2 := oil.Bounds(x.Lane, x.balls)
	playable, e3 := oil.Playable(x.Lane, x.balls, x.line)
	lasts, e4 := oil.Lasts(x.Lane, x.line)
	plan, e5 := oil.Plan(x.Lane, x.block)
	return map[string]answer{
		"CheckLane": {oil.CheckLane(x.Lane), nil},
		"Play":      {e1, []any{pattern}},
		"Bounds":    {e2, []any{least, most}},
		"Playable":  {e3, []any{playable}},
		"Lasts":     {e4, []any{lasts}},
		"Plan":      {e5, []any{plan}},
		"ProvePlan": {api.OK, []any{oil.ProvePlan(x.Lane, x.block, x.plan)}},
	}
}

func isNothing(results []any) bool {
	for _, result := range results {
		v := reflect.ValueOf(result)
		if !v.IsZero() && (v.Kind() != reflect.Slice || v.Len() > 0) {
			return false
		}
	}
	return true
}

// wantErrors asks all calls: those named have the error, and no result; the others have none.
func (x asked) wantErrors(t *testing.T, want api.Errno, calls ...string) {
	t.Helper()
	for call, a := range x.calls() {
		expected := api.OK
		if slices.Contains(calls, call) {
			expected = want
		}
		if a.e != expected {
			t.Errorf("%s of %v: %v, not %v", call, x, a.e, expected)
		}
		if a.e != api.OK && !isNothing(a.results) {
			t.Errorf("%s of %v: %v with %v", call, x, a.results, a.e)
		}
	}
}

// wantPlain asks all calls for their errors by the model.
func (x asked) wantPlain(t *testing.T) {
	t.Helper()
	answers := x.calls()
	for call, want := range x.plainErrors() {
		a := answers[call]
		if a.e != want || a.e != api.OK && !isNothing(a.results) {
			t.Fatalf("%s of %v: %v, %v, not %v", call, x, a.results, a.e, want)
		}
	}
	if plainLane(x.Lane) != api.OK || plainBlockError(x.Lane, x.block) != api.OK {
		if oil.ProvePlan(x.Lane, x.block, x.plan) {
			t.Fatalf("ProvePlan of %v", x)
		}
	}
}

// good has no error in any call, and some result in each.
func good() asked {
	l := chapters()
	a := line(list(0, 0, 0), 25, 0, 0)
	return asked{l, lists(list(0, 0, 1), list(0, 1, 1)), lists(list(2, 3, 4), list(5, 5, 5)), line(list(0, 0, 0), 20, 6, 5), times(3, a), list(2)}
}

// change makes something of what was asked otherwise; each has memory of its own, so that it may write to it.
type change func(x *asked)

func (x asked) changed(changes ...change) asked {
	x = x.roomy()
	for _, c := range changes {
		c(&x)
	}
	return x
}

func edges() []int {
	return []int{math.MinInt, math.MinInt + 1, -256, -2, -1, 101, 256, math.MaxInt - 1, math.MaxInt}
}

// The calls that have a lane; those that have balls; those that have a line of their own.
var (
	laneCalls = []string{"CheckLane", "Play", "Bounds", "Playable", "Lasts", "Plan"}
	ballCalls = []string{"Play", "Bounds", "Playable"}
	lineCalls = []string{"Playable", "Lasts"}
)

// tooLarge makes more rows, or more boards, than there may be.
func tooLarge() []change {
	rows := func(many int, row []int) change { return func(x *asked) { x.Fresh = times(many, row) } }
	boards := func(at, many int) change { return func(x *asked) { x.Fresh[at] = make([]int, many) } }
	return []change{rows(9, list(1, 1, 1)), rows(9, nil), rows(9, list(-1)), rows(1000, list(1)), rows(9, make([]int, 13)), boards(0, 13), boards(1, 13), boards(2, 13), boards(1, 1000), func(x *asked) { x.Fresh = times(8, make([]int, 13)) }}
}

// noLane makes one thing each of the lane what it may not be otherwise.
func noLane() []change {
	changes := []change{
		func(x *asked) { x.Fresh = nil },
		func(x *asked) { x.Fresh = lists() },
		func(x *asked) { x.Fresh = lists(nil) },
		func(x *asked) { x.Fresh = times(3, list()) },
		func(x *asked) { x.Fresh[0] = nil },
		func(x *asked) { x.Fresh[2] = list() },
		func(x *asked) { x.Fresh[0] = list(1, 2) },
		func(x *asked) { x.Fresh[0] = list(1, 2, 3, 4) },
		func(x *asked) { x.Fresh[1] = list(1, 2) },
		func(x *asked) { x.Fresh[1] = list(1, 2, 3, 4) },
		func(x *asked) { x.Fresh[2] = list(1, 2) },
		func(x *asked) { x.Fresh[2] = list(1, 2, 3, 4) },
		func(x *asked) { x.Wear = to(5, 4) },
		func(x *asked) { x.Wear = to(-1, 5) },
		func(x *asked) { x.Wear = to(-1, -1) },
		func(x *asked) { x.Wear = to(2, 10) },
		func(x *asked) { x.Wear = to(10, 10) },
		func(x *asked) { x.Wear = to(9, 0) },
		func(x *asked) { x.Wear = to(10, 9) },
		func(x *asked) { x.Wear = to(math.MaxInt, math.MinInt) },
	}
	for _, n := range edges() {
		changes = append(changes,
			func(x *asked) { x.Fresh[0][0] = n }, func(x *asked) { x.Fresh[1][1] = n }, func(x *asked) { x.Fresh[2][2] = n },
			func(x *asked) { x.Carry = n }, func(x *asked) { x.Wear.Lo = n }, func(x *asked) { x.Wear.Hi = n })
	}
	return changes
}

// notForEachRow makes the list too short or too long, or gives it a number that is not in its range.
func notForEachRow(of func(x *asked) *[]int, low, high int) []change {
	changes := []change{
		func(x *asked) { *of(x) = nil },
		func(x *asked) { *of(x) = list() },
		func(x *asked) { *of(x) = (*of(x))[:2] },
		func(x *asked) { *of(x) = append(*of(x), (*of(x))[2]) },
	}
	for _, n := range append(edges(), low-1, high+1) {
		for row := range 3 {
			changes = append(changes, func(x *asked) { (*of(x))[row] = n })
		}
	}
	return changes
}

func tooManyBalls() []change {
	return []change{
		func(x *asked) { x.balls = make([][]int, 21) },
		func(x *asked) { x.balls, x.wear = times(21, list(0, 0, 1)), times(21, list(2, 3, 4)) },
		func(x *asked) { x.balls = make([][]int, 1000) },
	}
}

func noBalls() []change {
	return slices.Concat(
		notForEachRow(func(x *asked) *[]int { return &x.balls[0] }, 0, 2),
		notForEachRow(func(x *asked) *[]int { return &x.balls[1] }, 0, 2))
}

func tooManyLines() []change {
	return []change{
		func(x *asked) { x.block = make([]oil.Line, 21) },
		func(x *asked) { x.block = times(21, line(list(0, 0, 0), 0, 0, 0)) },
		func(x *asked) { x.block = make([]oil.Line, 1000) },
	}
}

func noBlock() []change {
	var changes []change
	for i := range 3 {
		changes = slices.Concat(changes,
			notForEachRow(func(x *asked) *[]int { return &x.block[i].Ball }, 0, 2),
			notForEachRow(func(x *asked) *[]int { return &x.block[i].Need }, 0, 100))
	}
	return changes
}

func noWear() []change {
	return slices.Concat(
		[]change{
			func(x *asked) { x.wear = nil },
			func(x *asked) { x.wear = lists() },
			func(x *asked) { x.wear = x.wear[:1] },
			func(x *asked) { x.wear = append(x.wear, list(2, 2, 2)) },
			func(x *asked) { x.wear = times(21, list(2, 2, 2)) },
		},
		notForEachRow(func(x *asked) *[]int { return &x.wear[0] }, 2, 5),
		notForEachRow(func(x *asked) *[]int { return &x.wear[1] }, 2, 5))
}

func noLine() []change {
	return slices.Concat(
		notForEachRow(func(x *asked) *[]int { return &x.line.Ball }, 0, 2),
		notForEachRow(func(x *asked) *[]int { return &x.line.Need }, 0, 100))
}

// tooNeedy makes one line each of the block one that Fresh has not oil enough for.
func tooNeedy() []change {
	var changes []change
	for i := range 3 {
		for row, n := range list(31, 11, 6) {
			changes = append(changes, func(x *asked) { x.block[i].Need[row] = n })
		}
	}
	return changes
}

// The rows of the section Errors, R1 and R2: each question by itself, and no other results.
func TestErrors(t *testing.T) {
	good().wantErrors(t, api.OK)
	for call, a := range good().calls() {
		if call != "CheckLane" && isNothing(a.results) {
			t.Errorf("%s: %v", call, a.results)
		}
	}
	for _, row := range []struct {
		e       api.Errno
		changes []change
		calls   []string
	}{
		{api.ErrLimit, tooLarge(), laneCalls}, {api.ErrArg, noLane(), laneCalls},
		{api.ErrLimit, tooManyBalls(), ballCalls}, {api.ErrRange, noBalls(), ballCalls},
		{api.ErrLimit, tooManyLines(), []string{"Plan"}}, {api.ErrRange, noBlock(), []string{"Plan"}},
		{api.ErrRange, noWear(), []string{"Play"}}, {api.ErrRange, noLine(), lineCalls}, {api.ErrFail, tooNeedy(), []string{"Plan"}},
	} {
		for _, c := range row.changes {
			x := good().changed(c)
			x.wantErrors(t, row.e, row.calls...)
			if slices.Contains(row.calls, "Plan") && oil.ProvePlan(x.Lane, x.block, x.plan) {
				t.Errorf("ProvePlan of %v", x)
			}
		}
	}
}

// R1: of several questions that apply the first one in the order of the rows.
func TestErrorOrder(t *testing.T) {
	rows := [][]change{tooLarge(), noLane(), tooManyBalls(), noBalls(), tooManyLines(), noBlock(), noWear(), noLine(), tooNeedy()}
	r := rand.New(rand.NewSource(5))
	for _, row := range rows {
		for _, one := range row {
			for _, other := range rows {
				for range 8 {
					x, ok := tryAll(one, other[r.Intn(len(other))])
					// One change may take back another: the model tells what still applies.
					if ok {
						x.wantPlain(t)
					}
				}
			}
		}
	}
	// All of them at once, and all but the first ones.
	bad := []change{
		func(x *asked) { x.Fresh = times(9, list(1)) },
		func(x *asked) { x.Carry = -1 },
		func(x *asked) { x.balls, x.block = make([][]int, 21), make([]oil.Line, 21) },
		func(x *asked) { x.balls, x.block = x.balls[:20], x.block[:20] },
		func(x *asked) { x.wear, x.line, x.block[0] = nil, oil.Line{}, line(list(0, 0, 0), 31, 0, 0) },
	}
	good().changed(bad[2], bad[4], bad[1], bad[0]).wantErrors(t, api.ErrLimit, laneCalls...)
	good().changed(bad[2], bad[1]).wantErrors(t, api.ErrArg, laneCalls...)
	good().changed(bad[2], bad[3], bad[1]).wantErrors(t, api.ErrArg, laneCalls...)
	good().changed(bad[4], bad[1]).wantErrors(t, api.ErrArg, laneCalls...)
	x := good().changed(bad[2], func(x *asked) { x.line = oil.Line{} })
	for call, want := range map[string]api.Errno{"CheckLane": api.OK, "Play": api.ErrLimit, "Bounds": api.ErrLimit, "Playable": api.ErrLimit, "Lasts": api.ErrRange, "Plan": api.ErrLimit} {
		if e := x.calls()[call].e; e != want {
			t.Errorf("%s of %v: %v, not %v", call, x, e, want)
		}
	}
}

// tryAll makes the changes; not all of them can be made behind all others.
func tryAll(changes ...change) (x asked, ok bool) {
	defer func() { ok = recover() == nil }()
	return good().changed(changes...), true
}

// What is just valid still.
func TestJustValid(t *testing.T) {
	for _, rows := range list(1, 8) {
		for _, boards := range list(1, 12) {
			for _, level := range list(0, 100) {
				for _, wear := range []oil.Range{to(0, 0), to(9, 9), to(0, 9)} {
					for _, carry := range list(0, 100) {
						for _, balls := range list(0, 1, 20) {
							ball := times(rows, boards-1)
							x := asked{lane(wear, carry, times(rows, times(boards, level))...), times(balls, ball), times(balls, times(rows, wear.Hi)), line(ball, times(rows, level)...), times(balls, line(ball, times(rows, 0)...)), nil}
							x.wantErrors(t, api.OK)
							x.wantPlain(t)
							if !oil.ProvePlan(x.Lane, x.block, x.plan) {
								t.Errorf("ProvePlan of %v", x)
							}
						}
					}
				}
			}
		}
	}
	for _, wear := range lists(list(2, 2, 2), list(5, 5, 5), list(2, 5, 3)) {
		good().changed(func(x *asked) { x.wear[1] = wear }).wantErrors(t, api.OK)
	}
	good().changed(func(x *asked) { x.line.Need = list(100, 100, 100) }).wantErrors(t, api.OK)
}

// R3: nil and a list without elements are the same.
func TestEmpty(t *testing.T) {
	for _, none := range [][][]int{nil, {}} {
		for _, block := range [][]oil.Line{nil, {}} {
			x := good().changed(func(x *asked) { x.balls, x.wear, x.block = none, none, block })
			x.wantErrors(t, api.OK)
			if p := mustPlay(t, x.Lane, x.balls, x.wear); !same(p, x.Fresh) {
				t.Errorf("Play of no balls: %v", p)
			}
			if plan, right := planOf(t, x.Lane, x.block); len(plan) > 0 || !right {
				t.Errorf("Plan of no lines: %v", plan)
			}
			for _, plan := range lists(nil, list()) {
				if !oil.ProvePlan(x.Lane, x.block, plan) {
					t.Errorf("ProvePlan of no lines")
				}
			}
		}
	}
}

// roomy has the list's elements with room behind them, which no call may use.
func roomy[T any](list []T) []T {
	if list == nil {
		return nil
	}
	return append(make([]T, 0, len(list)+4), list...)
}

func whole[T any](list []T) []T { return slices.Clone(list[:cap(list)]) }

// each is what was asked, with all its lists made anew by the functions.
func (x asked) each(numbers func([]int) []int, patterns func([][]int) [][]int, blocks func([]oil.Line) []oil.Line) asked {
	for _, p := range []*[][]int{&x.Fresh, &x.balls, &x.wear} {
		*p = patterns(*p)
		for i, row := range *p {
			(*p)[i] = numbers(row)
		}
	}
	x.block = blocks(x.block)
	for i, l := range x.block {
		x.block[i] = oil.Line{Ball: numbers(l.Ball), Need: numbers(l.Need)}
	}
	x.line = oil.Line{Ball: numbers(x.line.Ball), Need: numbers(x.line.Need)}
	x.plan = numbers(x.plan)
	return x
}

func (x asked) roomy() asked { return x.each(roomy[int], roomy[[]int], roomy[oil.Line]) }

// copied shares no memory with the arguments, and has what is in their room, too.
func (x asked) copied() asked { return x.each(whole[int], whole[[]int], whole[oil.Line]) }

// spoil writes to all that a result has, and behind its ends.
func spoil(result any) {
	switch x := result.(type) {
	case [][]int:
		for _, row := range x {
			spoil(row)
		}
		for i := range x {
			x[i] = nil
		}
		_ = append(x, nil)
	case []int:
		for i := range x {
			x[i] = -7
		}
		_ = append(x, -7)
	}
}

// R4: arguments are not written to, and results share no memory with them, nor with other calls' ones.
func TestMemory(t *testing.T) {
	r := rand.New(rand.NewSource(6))
	for range 500 {
		l := someLane(r, 1+r.Intn(8), 1+r.Intn(12), 3)
		balls := someBalls(r, l, r.Intn(4))
		x := asked{l, balls, someTruth(r, l, len(balls)), someLine(r, l, someBall(r, l)), someBlock(r, l, r.Intn(8)), nil}.roomy()
		before, first := x.copied(), x.calls()
		for _, a := range x.calls() {
			for _, result := range a.results {
				spoil(result)
			}
		}
		if !reflect.DeepEqual(x.copied(), before) {
			t.Fatalf("the arguments are %v behind the calls", x)
		}
		if again := x.calls(); !reflect.DeepEqual(again, first) {
			t.Fatalf("the results are %v again, not %v", again, first)
		}
	}
}

// R4: no two rows of results share memory.
func TestRowsApart(t *testing.T) {
	for _, balls := range [][][]int{nil, {{0, 0, 1}}} {
		p := mustPlay(t, chapters(), balls, times(len(balls), list(2, 2, 2)))
		least, most := mustBounds(t, chapters(), balls)
		rows := slices.Concat(p, least, most)
		for i := range rows {
			others := deep(rows)
			spoil(rows[i])
			for j := range rows {
				if i != j && !slices.Equal(rows[j], others[j]) {
					t.Errorf("the row %d is %v, with that of %d", j, rows[j], i)
				}
			}
		}
	}
	if l := chapters(); !same(l.Fresh, chapters().Fresh) {
		t.Errorf("Fresh is %v", l.Fresh)
	}
}

// P1 and the Rules' first lines: whatever the arguments are, each call returns, and returns the same again.
func TestAnyArguments(t *testing.T) {
	r := rand.New(rand.NewSource(7))
	more := append(edges(), 0, 1, 2, 5, 8, 9, 10, 11, 12, 20, 100)
	alter := func(often int, numbers []int) []int {
		numbers = roomy(numbers)
		for i := range numbers {
			if r.Intn(often) == 0 {
				numbers[i] = more[r.Intn(len(more))]
			}
		}
		if r.Intn(often) == 0 {
			return numbers[:len(numbers)/2]
		}
		return numbers
	}
	kinds := map[api.Errno]int{}
	for range 12000 {
		l := someLane(r, 1+r.Intn(8), 1+r.Intn(12), 3)
		balls := someBalls(r, l, r.Intn(4))
		x := asked{l, balls, someTruth(r, l, len(balls)), someLine(r, l, someBall(r, l)), someBlock(r, l, r.Intn(4)), nil}
		plans(len(x.block), func(plan []int) {
			if r.Intn(3) == 0 {
				x.plan = plan
			}
		})
		if r.Intn(4) > 0 {
			x = x.each(func(numbers []int) []int { return alter(150, numbers) }, roomy[[]int], roomy[oil.Line])
			rest := alter(20, list(x.Wear.Lo, x.Wear.Hi, x.Carry, 0, 0, 0))
			x.Wear, x.Carry = to(rest[0], rest[1]), rest[2]
		}
		before := x.copied()
		if first := x.calls(); !reflect.DeepEqual(first, x.calls()) {
			t.Fatalf("not the same again: %v", x)
		}
		if !reflect.DeepEqual(x.copied(), before) {
			t.Fatalf("written to: %v, not %v", x, before)
		}
		x.wantPlain(t)
		for _, a := range x.calls() {
			kinds[a.e]++
		}
	}
	for _, e := range []api.Errno{api.OK, api.ErrArg, api.ErrRange, api.ErrFail} {
		if kinds[e] < 300 {
			t.Errorf("too few of some kind: %v", kinds)
		}
	}
}
