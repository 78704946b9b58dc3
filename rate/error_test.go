package rate_test

import (
	"math"
	"math/rand"
	"reflect"
	"slices"
	"testing"

	"kingpin/api"
	"kingpin/rate"
)

// asked is all that calls may be given.
type asked struct {
	rate.Book
	bowler, week      int
	home, away, weeks []int
}

type answer struct {
	e      api.Errno
	result any
}

func (x asked) calls() map[string]answer {
	counting, e1 := rate.Counting(x.Book)
	average, e2 := rate.Average(x.Book, x.bowler, x.week)
	handicap, e3 := rate.Handicap(x.Book, x.bowler, x.week)
	forHome, forAway, e4 := rate.Match(x.Book, x.week, x.home, x.away)
	span, e5 := rate.Span(x.Book, x.bowler, x.week, x.weeks)
	return map[string]answer{
		"CheckBook": {rate.CheckBook(x.Book), 0},
		"Counting":  {e1, counting},
		"Average":   {e2, average},
		"Handicap":  {e3, handicap},
		"Match":     {e4, [2]int{forHome, forAway}},
		"Span":      {e5, span},
	}
}

func isNothing(result any) bool {
	switch x := result.(type) {
	case []int:
		return len(x) == 0
	case [2]int:
		return x == [2]int{}
	case rate.Range:
		return x == rate.Range{}
	}
	return result == 0
}

// wantErrors asks all calls: the named ones have the error, and no result; the others have none.
func (x asked) wantErrors(t *testing.T, want api.Errno, calls ...string) {
	t.Helper()
	x.wantAll(t, map[api.Errno][]string{want: calls})
}

// wantAll is for several errors at once.
func (x asked) wantAll(t *testing.T, want map[api.Errno][]string) {
	t.Helper()
	for call, a := range x.calls() {
		expected := api.OK
		for e, calls := range want {
			if slices.Contains(calls, call) {
				expected = e
			}
		}
		if a.e != expected {
			t.Errorf("%s of %v: %v, not %v", call, x, a.e, expected)
		}
		if a.e != api.OK && !isNothing(a.result) {
			t.Errorf("%s of %v: %v with %v", call, x, a.result, a.e)
		}
	}
}

var (
	allCalls    = []string{"CheckBook", "Counting", "Average", "Handicap", "Match", "Span"}
	bowlerCalls = []string{"Average", "Handicap", "Span"}
	weekCalls   = []string{"Average", "Handicap", "Match", "Span"}
)

// good has no error in any call, and results that are not empty.
func good() asked {
	b := without(and(example(), sheet(8, 0, 7, 1, 2, 3)), 7, 8)
	b.Bowlers = list(150, 170, 190, 210)
	return asked{b, 1, 5, list(0, 2), list(1, 3), list(2, 4)}
}

// bad has nothing as it should be but the book.
func bad(b rate.Book) asked {
	return asked{b, -1, 0, make([]int, 5), nil, list(9, 9)}
}

func edges() []int {
	return []int{math.MinInt, math.MinInt + 1, -301, -2, -1, 1000, math.MaxInt - 1, math.MaxInt}
}

// tooMany makes one list each longer than it may be.
func tooMany() []func(b *rate.Book) {
	return []func(b *rate.Book){
		func(b *rate.Book) { b.Bowlers = make([]int, 9) },
		func(b *rate.Book) { b.Sheets = slices.Repeat(b.Sheets[:1], 41) },
		func(b *rate.Book) { b.Withdrawn = row(1, 41) },
		func(b *rate.Book) { b.Withdrawn = make([]int, 41) },
		func(b *rate.Book) { b.Bowlers = make([]int, 1000) },
	}
}

// invalid makes one thing each what it may just not be, or far from valid.
func invalid() []func(b *rate.Book) {
	changes := []func(b *rate.Book){
		func(b *rate.Book) { b.Law.Base = 301 },
		func(b *rate.Book) { b.Law.Percent = 101 },
		func(b *rate.Book) { b.Law.Cap = 301 },
		func(b *rate.Book) { b.Law.Least = 0 },
		func(b *rate.Book) { b.Law.Least = 31 },
		func(b *rate.Book) { b.Law.Blind = 301 },
		func(b *rate.Book) { b.Bowlers[3] = 301 },
		func(b *rate.Book) { b.Bowlers = nil },
		func(b *rate.Book) { b.Bowlers = b.Bowlers[:1] },
		func(b *rate.Book) { b.Sheets[0].Number = 0 },
		func(b *rate.Book) { b.Sheets[3].Bowler = 4 },
		func(b *rate.Book) { b.Sheets[0].Week = 0 },
		func(b *rate.Book) { b.Sheets[4].Week = 31 },
		func(b *rate.Book) { b.Sheets[0].Games[0] = 301 },
		func(b *rate.Book) { b.Sheets[4].Games[2] = 301 },
		func(b *rate.Book) { b.Withdrawn = list(0, 8) },
		func(b *rate.Book) { b.Withdrawn = list(8, 7) },
		func(b *rate.Book) { b.Withdrawn = list(7, 7) },
		func(b *rate.Book) { b.Withdrawn = list(1, 7, 7, 8) },
		func(b *rate.Book) { b.Withdrawn = list(7, 999, 8) },
		// Also of a sheet that is withdrawn, of one that is corrected, and of one that is there twice.
		func(b *rate.Book) { b.Withdrawn = list(1, 2, 3, 4, 8); b.Sheets[1].Games[1] = 301 },
		func(b *rate.Book) { b.Sheets[1].Games[1] = -1 },
		func(b *rate.Book) { b.Sheets[1].Week = 31; b.Sheets[2] = b.Sheets[1] },
	}
	for _, n := range edges() {
		changes = append(changes,
			func(b *rate.Book) { b.Law.Base = n }, func(b *rate.Book) { b.Law.Percent = n }, func(b *rate.Book) { b.Law.Cap = n }, func(b *rate.Book) { b.Law.Least = n }, func(b *rate.Book) { b.Law.Blind = n },
			func(b *rate.Book) { b.Bowlers[0] = n }, func(b *rate.Book) { b.Bowlers[3] = n },
			func(b *rate.Book) { b.Sheets[4].Number = n }, func(b *rate.Book) { b.Sheets[0].Bowler = n }, func(b *rate.Book) { b.Sheets[0].Week = n }, func(b *rate.Book) { b.Sheets[0].Games[0] = n }, func(b *rate.Book) { b.Sheets[2].Games[1] = n }, func(b *rate.Book) { b.Sheets[4].Games[2] = n },
			func(b *rate.Book) { b.Withdrawn = list(n) }, func(b *rate.Book) { b.Withdrawn = list(7, n) }, func(b *rate.Book) { b.Withdrawn = list(n, 7) })
	}
	return changes
}

// contrary gives two sheets each the same Number that are not the same.
func contrary() []func(b *rate.Book) {
	return []func(b *rate.Book){
		func(b *rate.Book) { b.Sheets[0].Number = 2 },
		func(b *rate.Book) { b.Sheets = append(b.Sheets, sheet(1, 1, 1, 140, 160, 150)) },
		func(b *rate.Book) { b.Sheets = append(b.Sheets, sheet(1, 0, 9, 140, 160, 150)) },
		func(b *rate.Book) { b.Sheets = append(b.Sheets, sheet(1, 0, 1, 141, 160, 150)) },
		func(b *rate.Book) { b.Sheets = append(b.Sheets, sheet(1, 0, 1, 140, 161, 150)) },
		func(b *rate.Book) { b.Sheets = append(b.Sheets, sheet(1, 0, 1, 140, 160, 151)) },
		func(b *rate.Book) { b.Sheets = append(b.Sheets, sheet(1, 0, 1, 160, 140, 150)) },
		func(b *rate.Book) { b.Sheets = append(b.Sheets, b.Sheets[0], sheet(1, 0, 1, 160, 140, 150)) },
		func(b *rate.Book) { b.Sheets = append(b.Sheets, sheet(1, 0, 1, 160, 140, 150), b.Sheets[0]) },
		// Also of sheets that are withdrawn, or corrected.
		func(b *rate.Book) { b.Sheets = append(b.Sheets, sheet(8, 0, 7, 1, 2, 4)) },
		func(b *rate.Book) { b.Withdrawn = list(1); b.Sheets = append(b.Sheets, sheet(1, 0, 1, 0, 0, 0)) },
		func(b *rate.Book) { b.Sheets = append(b.Sheets, sheet(2, 0, 2, 0, 0, 0)) },
	}
}

// The row of all calls, R1 and R2: the first question that applies, and no other results.
func TestErrors(t *testing.T) {
	good().wantErrors(t, api.OK)
	for call, a := range good().calls() {
		if call != "CheckBook" && isNothing(a.result) {
			t.Errorf("%s: %v", call, a.result)
		}
	}
	ranks := []struct {
		e       api.Errno
		changes []func(b *rate.Book)
	}{{api.ErrLimit, tooMany()}, {api.ErrArg, invalid()}, {api.ErrTwice, contrary()}}
	for i, rank := range ranks {
		for _, change := range rank.changes {
			x := good()
			change(&x.Book)
			x.wantErrors(t, rank.e, allCalls...)
			bad(x.Book).wantErrors(t, rank.e, allCalls...)
		}
		// Whatever a later question asks is not as it should be either.
		for _, later := range ranks[i+1:] {
			for _, change := range rank.changes {
				x := good()
				later.changes[0](&x.Book)
				change(&x.Book)
				x.wantErrors(t, rank.e, allCalls...)
			}
		}
	}
}

// What is just valid still.
func TestJustValid(t *testing.T) {
	for _, change := range []func(b *rate.Book){
		func(b *rate.Book) { b.Law = rate.Law{Base: 0, Percent: 0, Cap: 0, Least: 1, Blind: 0} },
		func(b *rate.Book) { b.Law = rate.Law{Base: 300, Percent: 100, Cap: 300, Least: 30, Blind: 300} },
		func(b *rate.Book) { b.Bowlers = list(0, 300, 0, 300, 0, 300, 0, 300); b.Sheets[0].Bowler = 7 },
		func(b *rate.Book) { b.Sheets[0] = sheet(999, 0, 30, 300, 300, 300) },
		func(b *rate.Book) { b.Sheets[0] = sheet(5, 0, 1, 0, 0, 0) },
		func(b *rate.Book) { b.Sheets = slices.Repeat(b.Sheets, 8) },
		func(b *rate.Book) { b.Sheets = nil },
		func(b *rate.Book) { b.Withdrawn = list(1, 999) },
		func(b *rate.Book) { b.Withdrawn = row(960, 40) },
		func(b *rate.Book) { b.Withdrawn = nil },
		func(b *rate.Book) { b.Sheets = append(b.Sheets, b.Sheets[4]) },
	} {
		x := good()
		change(&x.Book)
		x.wantErrors(t, api.OK)
	}
}

// The rows that ask for the bowler and the week.
func TestRangeErrors(t *testing.T) {
	for _, n := range append(edges(), 4) {
		x := good()
		x.bowler = n
		x.wantErrors(t, api.ErrRange, bowlerCalls...)
		x.weeks, x.home = list(5, 4, 0), nil
		x.wantAll(t, map[api.Errno][]string{api.ErrRange: bowlerCalls, api.ErrArg: {"Match"}})
		x = good()
		x.Book = book(nil)
		x.wantAll(t, map[api.Errno][]string{api.ErrRange: bowlerCalls, api.ErrArg: {"Match"}})
	}
	for _, n := range append(edges(), 0, 31) {
		x := good()
		x.week = n
		x.wantErrors(t, api.ErrRange, weekCalls...)
		x.home, x.away, x.weeks = make([]int, 5), nil, list(31, 30)
		x.wantErrors(t, api.ErrRange, weekCalls...)
	}
	for _, n := range list(1, 30) {
		x := good()
		x.week, x.weeks = n, nil
		x.wantErrors(t, api.OK)
	}
}

// The row of Match: too many bowlers before teams that are not teams.
func TestMatchErrors(t *testing.T) {
	x := good()
	x.Bowlers = make([]int, 8)
	for _, teams := range [][2][]int{{row(0, 5), list(5)}, {list(5), row(0, 5)}, {row(0, 5), row(5, 3)}, {make([]int, 5), nil}, {nil, make([]int, 5)}, {list(9, 9, 9, 9, 9), list(9)}, {make([]int, 1000), make([]int, 1000)}} {
		x.home, x.away = teams[0], teams[1]
		x.wantErrors(t, api.ErrLimit, "Match")
	}
	for _, teams := range [][2][]int{{nil, nil}, {list(0), nil}, {nil, list(0)}, {list(), list(0)}, {list(0, 0), list(1)}, {list(1), list(0, 0)}, {list(0, 1, 2, 0), list(3)}, {list(3), list(0, 1, 2, 2)}, {list(0), list(0)}, {list(0, 1), list(2, 1)}, {row(0, 4), row(3, 4)}} {
		x.home, x.away = teams[0], teams[1]
		x.wantErrors(t, api.ErrArg, "Match")
	}
	for _, n := range append(edges(), 8) {
		for _, teams := range [][2][]int{{list(n), list(0)}, {list(0), list(n)}, {list(0, 1, 2, n), list(4)}, {list(4), list(n, 1, 2, 3)}, {list(n), list(n)}} {
			x.home, x.away = teams[0], teams[1]
			x.wantErrors(t, api.ErrArg, "Match")
		}
	}
	for _, teams := range [][2][]int{{list(0), list(7)}, {row(0, 4), row(4, 4)}, {list(7, 0, 6, 1), list(5)}} {
		x.home, x.away = teams[0], teams[1]
		x.wantErrors(t, api.OK)
	}
}

// The row of Span: weeks that are not as they should be, before weeks of which a sheet counts.
func TestSpanErrors(t *testing.T) {
	for _, n := range append(edges(), 0, 5, 6, 31) {
		for _, weeks := range [][]int{list(n), list(2, n), list(n, 4), list(1, n)} {
			x := good()
			x.weeks = weeks
			x.wantErrors(t, api.ErrArg, "Span")
		}
	}
	for _, weeks := range [][]int{list(2, 2), list(4, 3), list(2, 4, 3), list(2, 3, 3), list(1, 1), list(3, 1), make([]int, 100), row(1, 40)} {
		x := good()
		x.weeks = weeks
		x.wantErrors(t, api.ErrArg, "Span")
	}
	for _, weeks := range [][]int{list(1), list(1, 2), row(1, 4)} {
		x := good()
		x.weeks = weeks
		x.wantErrors(t, api.ErrState, "Span")
		x.Withdrawn = list(3, 7)
		x.wantErrors(t, api.OK)
	}
	for _, weeks := range [][]int{list(2), list(2, 3), list(1), list(1, 2, 3), list(3, 4), nil} {
		x := good()
		x.bowler, x.weeks = 0, weeks
		if slices.Contains(weeks, 1) || slices.Contains(weeks, 2) {
			x.wantErrors(t, api.ErrState, "Span")
		} else {
			x.wantErrors(t, api.OK)
		}
	}
	// The week 7 has a sheet alone that is withdrawn.
	x := good()
	x.bowler, x.week, x.weeks = 0, 8, list(7)
	x.wantErrors(t, api.OK)
	x.Withdrawn = nil
	x.wantErrors(t, api.ErrState, "Span")
	x.week, x.weeks = 1, list(1)
	x.wantErrors(t, api.ErrArg, "Span")
}

// R3: nil and a list without elements are the same.
func TestEmpty(t *testing.T) {
	for _, b := range []rate.Book{{Law: rate.Law{Least: 1}}, {Law: rate.Law{Least: 1}, Bowlers: []int{}, Sheets: []rate.Sheet{}, Withdrawn: []int{}}} {
		for _, x := range []asked{{b, 0, 1, nil, nil, nil}, {b, 0, 1, []int{}, []int{}, []int{}}} {
			x.wantAll(t, map[api.Errno][]string{api.ErrRange: bowlerCalls, api.ErrArg: {"Match"}})
			if l := mustCount(t, b); len(l) != 0 {
				t.Errorf("Counting: %v", l)
			}
		}
		b.Bowlers = list(120, 130)
		for _, weeks := range [][]int{nil, {}} {
			x := asked{b, 0, 1, list(0), list(1), weeks}
			x.wantErrors(t, api.OK)
			if s := mustSpan(t, b, 0, 1, weeks); s != (rate.Range{Lo: 120, Hi: 120}) {
				t.Errorf("Span: %v", s)
			}
		}
	}
}

// roomy has the list's elements with room behind them, which no call may use.
func roomy[T any](list []T) []T { return append(make([]T, 0, len(list)+4), list...) }

// copied shares no memory with the arguments, and has what is in their room, too.
func (x asked) copied() asked {
	y := x
	for _, list := range []*[]int{&y.Bowlers, &y.Withdrawn, &y.home, &y.away, &y.weeks} {
		*list = slices.Clone((*list)[:cap(*list)])
	}
	y.Sheets = slices.Clone(x.Sheets[:cap(x.Sheets)])
	return y
}

// R4: arguments are not written to, and results share no memory.
func TestMemory(t *testing.T) {
	x := good()
	x.Bowlers, x.Withdrawn, x.home, x.away, x.weeks = roomy(x.Bowlers), roomy(x.Withdrawn), roomy(x.home), roomy(x.away), roomy(x.weeks)
	x.Sheets = roomy(x.Sheets)
	before, first := x.copied(), x.calls()
	for _, a := range x.calls() {
		if list, ok := a.result.([]int); ok {
			for i := range list {
				list[i] = -7
			}
			_ = append(list, -7)
		}
	}
	if !reflect.DeepEqual(x.copied(), before) {
		t.Errorf("the arguments are %v behind the calls", x)
	}
	if again := x.calls(); !reflect.DeepEqual(again, first) {
		t.Errorf("the results are %v again, not %v", again, first)
	}
}

// P1 and the Rules' first lines: whatever the arguments are, each call returns, and returns the same again.
func TestAnyArguments(t *testing.T) {
	r := rand.New(rand.NewSource(21))
	more := append(edges(), 0, 1, 2, 3, 7, 8, 29, 30, 31, 40, 41, 299, 300, 301, 998, 999)
	change := func(numbers ...*int) {
		for _, n := range numbers {
			if r.Intn(40) == 0 {
				*n = more[r.Intn(len(more))]
			}
		}
	}
	changeAll := func(lists ...[]int) {
		for _, list := range lists {
			for i := range list {
				change(&list[i])
			}
		}
	}
	var passed [2]int
	someBooks(22, 5000, func(_ *rand.Rand, b rate.Book, f fates) {
		q := someQuestion(r, b, f)
		x := asked{b, q.bowler, q.week, q.home, q.away, q.weeks}
		if r.Intn(3) > 0 {
			change(&x.bowler, &x.week, &x.Law.Base, &x.Law.Percent, &x.Law.Cap, &x.Law.Least, &x.Law.Blind)
			changeAll(x.Bowlers, x.Withdrawn, x.home, x.away, x.weeks)
			for i := range x.Sheets[:len(x.Sheets)/4] {
				change(&x.Sheets[i].Number, &x.Sheets[i].Bowler, &x.Sheets[i].Week)
				changeAll(x.Sheets[i].Games[:])
			}
		}
		before := x.copied()
		if first := x.calls(); !reflect.DeepEqual(first, x.calls()) {
			t.Fatalf("not the same again: %v", x)
		}
		if !reflect.DeepEqual(x.copied(), before) {
			t.Fatalf("written to: %v, not %v", x, before)
		}
		count(passed[:], rate.CheckBook(x.Book) == api.OK)
	})
	wantMany(t, 1000, passed[:])
}
