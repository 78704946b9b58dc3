package seen_test

import (
	"math"
	"math/rand"
	"reflect"
	"slices"
	"testing"

	"kingpin/api"
	"kingpin/seen"
)

type answer struct {
	e       api.Errno
	results []any
}

// ask asks all calls that can have an error.
func ask(l seen.Lane, tellers []int) map[string]answer {
	explains, e1 := seen.Explains(l, tellers)
	places, count, e2 := seen.Ranges(l, tellers)
	sure, e3 := seen.Sure(l, tellers)
	many, e4 := seen.Many(l, tellers)
	least, e5 := seen.Least(l)
	blamed, e6 := seen.Blame(l)
	return map[string]answer{
		"CheckLane": {seen.CheckLane(l), nil},
		"Explains":  {e1, []any{explains}},
		"Ranges":    {e2, []any{places, count}},
		"Sure":      {e3, []any{sure}},
		"Many":      {e4, []any{many}},
		"Least":     {e5, []any{least}},
		"Blame":     {e6, []any{blamed}},
	}
}

// wantErrors asks all calls: the named ones have the error, and no results; the others have none.
func wantErrors(t *testing.T, l seen.Lane, tellers []int, want api.Errno, calls ...string) {
	t.Helper()
	for call, a := range ask(l, tellers) {
		expected := api.OK
		if slices.Contains(calls, call) {
			expected = want
		}
		if a.e != expected {
			t.Errorf("%s of %v, %v: %v, not %v", call, l, tellers, a.e, expected)
		}
		for _, result := range a.results {
			if v := reflect.ValueOf(result); a.e != api.OK && !v.IsZero() && (v.Kind() != reflect.Slice || v.Len() > 0) {
				t.Errorf("%s of %v, %v: %v with %v", call, l, tellers, result, a.e)
			}
		}
	}
}

var (
	allCalls    = []string{"CheckLane", "Explains", "Ranges", "Sure", "Many", "Least", "Blame"}
	withTellers = []string{"Explains", "Ranges", "Sure", "Many"}
	withGames   = []string{"Ranges", "Sure", "Many"}
)

// blamed is a lane without an error: the teller 2 is alone to blame.
func blamed() seen.Lane {
	return lane(2, word(0, 0, 0, 3, 5), word(1, 0, 2, 0, 0), word(1, 1, 2, 1, 1))
}

func badLanes() []seen.Lane {
	list := []seen.Lane{lane(0), lane(6), lane(-1), lane(math.MaxInt), lane(math.MinInt)}
	for _, w := range []seen.Word{
		word(2, 0, 0, 0, 0), word(-1, 0, 0, 0, 0), word(math.MaxInt, 0, 0, 0, 0), word(math.MinInt, 0, 0, 0, 0),
		word(0, 2, 0, 0, 0), word(0, -1, 0, 0, 0), word(0, math.MaxInt, 0, 0, 0), word(0, math.MinInt, 0, 0, 0),
		word(0, 0, 4, 0, 0), word(0, 0, -1, 0, 0), word(0, 0, math.MaxInt, 0, 0), word(0, 0, math.MinInt, 0, 0),
		word(0, 0, 0, 6, 5), word(0, 0, 0, -1, 5), word(0, 0, 0, 5, 11), word(0, 0, 0, math.MinInt, math.MaxInt), word(0, 0, 0, math.MaxInt, math.MinInt), word(0, 0, 0, math.MaxInt, math.MaxInt),
	} {
		list = append(list, with(blamed(), w), with(lane(2, w), blamed().Words...))
	}
	return list
}

func badTellers() [][]int {
	return [][]int{{4}, {-1}, {math.MaxInt}, {math.MinInt}, {0, 0}, {2, 2}, {1, 0}, {2, 1, 0}, {0, 1, 2, 3, 4}, {-1, 0, 1, 2, 3}, {0, 1, 3, 2}, {1, 2, 2}, {0, 2, 4}, make([]int, 5), make([]int, 5000)}
}

// The section Errors, R1 and R2: the first question that applies, and no other results.
func TestErrors(t *testing.T) {
	wantErrors(t, blamed(), []int{2}, api.OK)
	wantErrors(t, blamed(), []int{0, 1, 2, 3}, api.OK)
	for _, words := range [][]seen.Word{slices.Repeat([]seen.Word{word(0, 0, 0, 0, 0)}, 31), slices.Repeat([]seen.Word{word(9, 9, 9, 9, 0)}, 31), make([]seen.Word, 5000)} {
		// Also if the lane and the tellers are not valid otherwise.
		for _, frames := range []int{2, 0, 6, -1} {
			wantErrors(t, lane(frames, words...), nil, api.ErrLimit, allCalls...)
			wantErrors(t, lane(frames, words...), []int{4}, api.ErrLimit, allCalls...)
		}
	}
	for _, l := range badLanes() {
		wantErrors(t, l, []int{2}, api.ErrArg, allCalls...)
		wantErrors(t, l, []int{2, 1}, api.ErrArg, allCalls...)
	}
	for _, tellers := range badTellers() {
		wantErrors(t, blamed(), tellers, api.ErrRange, withTellers...)
	}
	for _, tellers := range [][]int{nil, {}, {0}, {1}, {0, 1, 3}} {
		wantErrors(t, blamed(), tellers, api.ErrFail, withGames...)
	}
}

// For Blame alone: nobody explains alone, or several do, or there is nothing to explain.
func TestNobodyToBlame(t *testing.T) {
	for _, l := range []seen.Lane{lane(1), lane(5, word(4, 1, 3, 0, 10)), quarrel(2, 0, 1), quarrel(1, 0, 1, 2, 3), lane(1, word(0, 0, 0, 1, 1), word(0, 0, 3, 2, 2))} {
		wantErrors(t, l, []int{0, 1, 2, 3}, api.ErrNone, "Blame")
	}
}

// R3: nil and a list without elements are the same.
func TestEmpty(t *testing.T) {
	x, y := lane(2), seen.Lane{Frames: 2, Words: []seen.Word{}}
	wantErrors(t, x, nil, api.ErrNone, "Blame")
	wantErrors(t, y, []int{}, api.ErrNone, "Blame")
	if a, b := mustTold(t, x, nil), mustTold(t, y, []int{}); !a.equal(b) {
		t.Errorf("%v, but with empty lists %v", a, b)
	}
	if len(mustLeast(t, x))+len(mustLeast(t, y)) > 0 || !seen.ProveGame(y, []int{}, [][]int{{10}, {0, 0}}) {
		t.Error("of lists without elements")
	}
}

// R4: arguments are not written to, and results share no memory.
func TestMemory(t *testing.T) {
	l, tellers, game := blamed(), append(make([]int, 0, 9), 2), [][]int{append(make([]int, 0, 9), 7, 1), {10}}
	l.Words = append(make([]seen.Word, 0, 30), l.Words...)
	words := slices.Clone(l.Words)
	first := ask(l, tellers)
	for _, a := range ask(l, tellers) {
		for _, result := range a.results {
			switch list := result.(type) {
			case []int:
				for i := range list {
					list[i] = -7
				}
				_ = append(list, -7)
			case []seen.Range:
				for i := range list {
					list[i] = to(-7, -7)
				}
				_ = append(list, to(-7, -7))
			case []seen.Place:
				for i := range list {
					list[i] = place(-7, -7)
				}
				_ = append(list, place(-7, -7))
			}
		}
	}
	if !seen.ProveGame(l, tellers, game) {
		t.Error("ProveGame denies the game")
	}
	if !slices.Equal(l.Words, words) || l.Words[:30][3] != (seen.Word{}) || !slices.Equal(tellers[:9], []int{2, 0, 0, 0, 0, 0, 0, 0, 0}) || !slices.Equal(game[0][:9], []int{7, 1, 0, 0, 0, 0, 0, 0, 0}) {
		t.Errorf("the arguments are %v, %v, %v behind the calls", l, tellers, game)
	}
	if again := ask(l, tellers); !reflect.DeepEqual(again, first) {
		t.Errorf("the results are %v again, not %v", again, first)
	}
}

// P1 and the Rules' first lines: whatever the arguments are, each call returns, and returns the same again.
func TestAnyArguments(t *testing.T) {
	r := rand.New(rand.NewSource(19))
	edges := []int{math.MinInt, math.MinInt + 1, -2, -1, 0, 1, 2, 3, 4, 5, 6, 9, 10, 11, 12, math.MaxInt - 1, math.MaxInt}
	number := func() int {
		if r.Intn(3) > 0 {
			return r.Intn(3)
		}
		return edges[r.Intn(len(edges))]
	}
	numbers := func() []int {
		var list []int
		for range r.Intn(5) {
			list = append(list, number())
		}
		return list
	}
	for range 5000 {
		l := blamed()
		for range r.Intn(4) {
			l.Words = append(l.Words, slices.Repeat([]seen.Word{word(number(), number(), number(), number(), number())}, r.Intn(12))...)
		}
		if r.Intn(3) == 0 {
			l.Frames = number()
		}
		tellers, game := numbers(), [][]int{numbers(), numbers()}[:r.Intn(3)]
		before := with(l)
		x, proven := ask(l, tellers), seen.ProveGame(l, tellers, game)
		if !reflect.DeepEqual(x, ask(before, slices.Clone(tellers))) || proven != seen.ProveGame(before, tellers, game) {
			t.Fatalf("not the same again: %v, %v, %v", l, tellers, game)
		}
		if !slices.Equal(l.Words, before.Words) {
			t.Fatalf("written to: %v, not %v", l, before)
		}
	}
}
