package ladder_test

import (
	"math"
	"math/rand"
	"reflect"
	"slices"
	"testing"

	"kingpin/api"
	"kingpin/ladder"
)

// asked is all that calls may be given.
type asked struct {
	ladder.Cup
	player  int
	winners []int
	upsets  int
}

type answer struct {
	e      api.Errno
	result any
}

func (x asked) calls() map[string]answer {
	tree, e1 := ladder.Tree(x.Cup)
	next, e2 := ladder.Next(x.Cup)
	winner, e3 := ladder.Winner(x.Cup)
	may, e4 := ladder.MayWin(x.Cup)
	upsets, e5 := ladder.Upsets(x.Cup, x.player)
	way, e6 := ladder.Way(x.Cup, x.player)
	hangs, e7 := ladder.Hangs(x.Cup)
	return map[string]answer{
		"CheckCup": {ladder.CheckCup(x.Cup), 0},
		"ProveWay": {api.OK, ladder.ProveWay(x.Cup, x.winners, x.upsets)},
		"Tree":     {e1, tree},
		"Next":     {e2, next},
		"Winner":   {e3, winner},
		"MayWin":   {e4, may},
		"Upsets":   {e5, upsets},
		"Way":      {e6, way},
		"Hangs":    {e7, hangs},
	}
}

func isNothing(result any) bool {
	switch x := result.(type) {
	case []ladder.Pair:
		return len(x) == 0
	case []ladder.Match:
		return len(x) == 0
	case []int:
		return len(x) == 0
	case bool:
		return !x
	}
	return result == 0
}

// wantAll asks all calls: those named have the error, and no result; the others have none.
func (x asked) wantAll(t *testing.T, want map[api.Errno][]string) {
	t.Helper()
	for call, a := range x.calls() {
		expected := api.OK
		for e, calls := range want {
			if slices.Contains(calls, call) {
				expected = e
			}
		}
		if a.e != expected {
			t.Errorf("%s of %v: %v, not %v", call, x, a.e, expected)
		}
		if a.e != api.OK && !isNothing(a.result) {
			t.Errorf("%s of %v: %v with %v", call, x, a.result, a.e)
		}
	}
}

func (x asked) wantErrors(t *testing.T, want api.Errno, calls ...string) {
	t.Helper()
	x.wantAll(t, map[api.Errno][]string{want: calls})
}

// cupCalls are those of the row of all but Tree.
var cupCalls = []string{"CheckCup", "Next", "Winner", "MayWin", "Upsets", "Way", "Hangs"}

// good is decided to the last match, and so has no error in any call about its winner.
func good() asked {
	return asked{bracket(5, 3, won(2, 2, 2), won(0, 4, 3, 4), won(3, 4, 2, 4), won(1, 0, 4, 4)), 4, list(4, 4, 2, 4), 0}
}

// bad has nothing as it should be but the knock-out.
func bad(c ladder.Cup) asked { return asked{c, -1, list(9), -1} }

func edges() []int {
	return []int{math.MinInt, math.MinInt + 1, -2, -1, 17, 255, math.MaxInt - 1, math.MaxInt}
}

type change func(c *ladder.Cup)

func (x asked) changed(changes ...change) asked {
	x.Cup = and(x.Cup)
	for _, c := range changes {
		c(&x.Cup)
	}
	return x
}

// tooMany makes more results than there may be, or more games in one, of nothing that there is.
func tooMany() []change {
	more := func(many int, r ladder.Result) change {
		return func(c *ladder.Cup) { *c = and(*c, slices.Repeat([]ladder.Result{r}, many)...) }
	}
	games := func(at, many int) change {
		return func(c *ladder.Cup) { c.Results[at].Games = slices.Repeat(list(4), many) }
	}
	return []change{more(12, ladder.Result{}), more(12, won(0, 4, 4)), more(12, won(-1)), more(1000, won(9, 9)), games(0, 6), games(3, 6), games(1, 1000), more(1, won(9, -1, 9, 9, 9, 9, 9))}
}

// notAsDescribed makes one thing each of the knock-out itself what it may not be.
func notAsDescribed() []change {
	changes := []change{
		func(c *ladder.Cup) { c.Players = 0 },
		func(c *ladder.Cup) { c.Players = 1 },
		func(c *ladder.Cup) { c.Players = 17 },
		func(c *ladder.Cup) { c.Games = 0 },
		func(c *ladder.Cup) { c.Games = 2 },
		func(c *ladder.Cup) { c.Games = 4 },
		func(c *ladder.Cup) { c.Games = 6 },
		func(c *ladder.Cup) { c.Games = 7 },
		func(c *ladder.Cup) { c.Games = -3 },
	}
	for _, n := range edges() {
		changes = append(changes, func(c *ladder.Cup) { c.Players = n }, func(c *ladder.Cup) { c.Games = n })
	}
	for form := 2; form < 256; form++ {
		changes = append(changes, func(c *ladder.Cup) { c.Form = uint8(form) })
	}
	return changes
}

// ofNoMatch makes one result each that there cannot be of a valid knock-out, by its match or by its number of games.
func ofNoMatch() []change {
	changes := []change{
		func(c *ladder.Cup) { c.Results[0].Match = 4 },
		func(c *ladder.Cup) { c.Results[3].Match = 4 },
		func(c *ladder.Cup) { c.Players = 4 },
		func(c *ladder.Cup) { c.Players = 2 },
		func(c *ladder.Cup) { c.Results[0].Games = nil },
		func(c *ladder.Cup) { c.Results[3].Games = list() },
		func(c *ladder.Cup) { *c = and(*c, won(0)) },
		func(c *ladder.Cup) { *c = and(*c, won(4, 4)) },
	}
	for _, n := range edges() {
		changes = append(changes, func(c *ladder.Cup) { c.Results[0].Match = n }, func(c *ladder.Cup) { c.Results[3].Match = n })
	}
	return changes
}

// twice gives a match two results.
func twice() []change {
	return []change{
		func(c *ladder.Cup) { *c = and(*c, won(2, 2, 2)) },
		func(c *ladder.Cup) { *c = and(*c, doubted(0, 4, 3, 4)) },
		func(c *ladder.Cup) { *c = and(*c, won(1, 9)) },
		func(c *ladder.Cup) { c.Results[3].Match = 3 },
		func(c *ladder.Cup) { c.Results[1].Match = 2 },
	}
}

// unlawful makes one result each not lawful.
func unlawful() []change {
	changes := []change{
		func(c *ladder.Cup) { c.Results[0].Games = list(2, 2, 2) },
		func(c *ladder.Cup) { c.Results[0].Games = list(2, 2, 1) },
		func(c *ladder.Cup) { c.Results[0].Games = list(2) },
		func(c *ladder.Cup) { c.Results[0].Games = list(1, 1) },
		func(c *ladder.Cup) { c.Results[1].Games = list(3, 3) },
		func(c *ladder.Cup) { c.Results[2].Games[1] = 1 },
		func(c *ladder.Cup) { c.Results = c.Results[:3] },
		func(c *ladder.Cup) { c.Results = c.Results[1:] },
		func(c *ladder.Cup) { c.Games = 1 },
		func(c *ladder.Cup) { c.Games = 5 },
		func(c *ladder.Cup) { c.Players = 6 },
		func(c *ladder.Cup) { c.Form = ladder.Ladder },
	}
	for _, n := range edges() {
		changes = append(changes, func(c *ladder.Cup) { c.Results[0].Games[0] = n }, func(c *ladder.Cup) { c.Results[2].Games[2] = n })
	}
	return changes
}

// The row of all calls but Tree, R1 and R2: the first question that applies, and no other results.
func TestErrors(t *testing.T) {
	good().wantErrors(t, api.OK)
	for _, call := range []string{"Tree", "Winner", "MayWin", "Way", "ProveWay"} {
		if a := good().calls()[call]; isNothing(a.result) {
			t.Errorf("%s: %v", call, a.result)
		}
	}
	for _, row := range []struct {
		e       api.Errno
		changes []change
		tree    bool
	}{{api.ErrLimit, tooMany(), false}, {api.ErrArg, notAsDescribed(), true}, {api.ErrArg, ofNoMatch(), false}, {api.ErrTwice, twice(), false}, {api.ErrLaw, unlawful(), false}} {
		calls := cupCalls
		if row.tree {
			calls = append(slices.Clone(calls), "Tree")
		}
		for _, c := range row.changes {
			x := good().changed(c)
			x.wantErrors(t, row.e, calls...)
			bad(x.Cup).wantErrors(t, row.e, calls...)
			if ladder.ProveWay(x.Cup, x.winners, math.MaxInt) {
				t.Errorf("ProveWay of %v", x)
			}
		}
	}
}

// R1: of two questions that apply the first one in the row.
func TestErrorOrder(t *testing.T) {
	rows := [][]change{tooMany(), ofNoMatch(), twice(), unlawful()}
	errors := []api.Errno{api.ErrLimit, api.ErrArg, api.ErrTwice, api.ErrLaw}
	var kinds [4]int
	for i, row := range rows {
		for _, first := range row {
			for _, later := range slices.Concat(rows[i:]...) {
				for _, changes := range [][]change{{first, later}, {later, first}} {
					c, ok := tryAll(good().Cup, changes)
					// One change may take back another: the model tells what still applies.
					if !ok || plainCheck(c) != errors[i] {
						continue
					}
					kinds[i]++
					bad(c).wantErrors(t, errors[i], cupCalls...)
				}
			}
		}
	}
	wantMany(t, 100, kinds[:])
	for _, c := range notAsDescribed() {
		for _, many := range tooMany() {
			bad(good().changed(many, c).Cup).wantAll(t, map[api.Errno][]string{api.ErrLimit: cupCalls, api.ErrArg: {"Tree"}})
		}
		for _, later := range slices.Concat(ofNoMatch(), twice(), unlawful()) {
			if x, ok := tryAll(good().Cup, []change{later, c}); ok && plainCheck(x) == api.ErrArg {
				bad(x).wantErrors(t, api.ErrArg, append(slices.Clone(cupCalls), "Tree")...)
			}
		}
	}
}

// tryAll makes the changes; not all of them can be made behind all others.
func tryAll(c ladder.Cup, changes []change) (made ladder.Cup, ok bool) {
	made = and(c)
	defer func() { ok = recover() == nil }()
	for _, change := range changes {
		change(&made)
	}
	return made, true
}

// What is just valid still.
func TestJustValid(t *testing.T) {
	full := bracket(16, 5)
	for n, p := range plainTree(full) {
		players := playersOf(p, plainOf(full).winners)
		full = and(full, won(n, players[0], players[1], players[1], players[0], players[1]))
	}
	short := bracket(16, 1)
	for n, p := range plainTree(short) {
		short = and(short, doubted(n, playersOf(p, plainOf(short).winners)[0]))
	}
	for _, c := range []ladder.Cup{full, short} {
		for _, form := range []ladder.Cup{c, {Form: ladder.Ladder, Players: 2, Games: 5, Results: []ladder.Result{won(0, 0, 1, 0, 1, 0)}}, bracket(2, 1, won(0, 1))} {
			for _, player := range mustMayWin(t, form) {
				winners := mustWay(t, form, player, mustUpsets(t, form, player))
				if !ladder.ProveWay(form, winners, form.Players) {
					t.Errorf("ProveWay of %v, %v", form, winners)
				}
			}
		}
	}
	if len(full.Results) != 15 || mustMayWin(t, full)[0] != plainOf(full).winners[14] || len(mustMayWin(t, short)) != 16 {
		t.Errorf("MayWin of %v: %v; of %v: %v", full, mustMayWin(t, full), short, mustMayWin(t, short))
	}
}

// The row of Winner: not decided before someone else who may win.
func TestWinnerErrors(t *testing.T) {
	for _, x := range []struct {
		change change
		want   api.Errno
	}{
		{func(c *ladder.Cup) { c.Results = nil }, api.ErrNone},
		{func(c *ladder.Cup) { c.Results[2].Games = list(4, 2) }, api.ErrNone},
		{func(c *ladder.Cup) { c.Results[2].Games = list(4, 2); c.Results[2].Protested = true }, api.ErrNone},
		{func(c *ladder.Cup) { c.Results = slices.Delete(c.Results, 2, 3); c.Results[0].Protested = true }, api.ErrNone},
		{func(c *ladder.Cup) { c.Results[0].Protested = true }, api.ErrState},
		{func(c *ladder.Cup) { c.Results[1].Protested = true }, api.ErrState},
		{func(c *ladder.Cup) { c.Results[2].Protested = true }, api.ErrState},
		{func(c *ladder.Cup) { c.Results[3].Protested = true }, api.ErrState},
	} {
		good().changed(x.change).wantErrors(t, x.want, "Winner")
	}
}

// The row of Upsets and Way: no such player before one that may not win.
func TestPlayerErrors(t *testing.T) {
	for _, n := range append(edges(), 5, 6, 16) {
		x := good()
		x.player = n
		x.wantErrors(t, api.ErrRange, "Upsets", "Way")
		x.Results = nil
		x.wantAll(t, map[api.Errno][]string{api.ErrRange: {"Upsets", "Way"}, api.ErrNone: {"Winner"}})
	}
	for player := range 4 {
		x := good()
		x.player = player
		x.wantErrors(t, api.ErrFail, "Upsets", "Way")
		x.Results = nil
		x.wantErrors(t, api.ErrNone, "Winner")
	}
}

// R3: nil and a list without elements are the same.
func TestEmpty(t *testing.T) {
	for _, results := range [][]ladder.Result{nil, {}} {
		x := asked{ladder.Cup{Players: 2, Games: 1, Results: results}, 1, list(1), 1}
		x.wantErrors(t, api.ErrNone, "Winner")
		if !ladder.ProveWay(x.Cup, x.winners, x.upsets) || ladder.ProveWay(x.Cup, nil, 9) || ladder.ProveWay(x.Cup, list(), 9) {
			t.Errorf("ProveWay of %v", x)
		}
	}
	for _, games := range [][]int{nil, {}} {
		x := asked{bracket(2, 1, won(0, games...)), 1, nil, 1}
		x.Results[0].Games = games
		x.wantErrors(t, api.ErrArg, cupCalls...)
	}
}

// roomy has the list's elements with room behind them, which no call may use.
func roomy[T any](list []T) []T { return append(make([]T, 0, len(list)+4), list...) }

func whole[T any](list []T) []T { return slices.Clone(list[:cap(list)]) }

func (x asked) roomy() asked {
	x.Results, x.winners = roomy(x.Results), roomy(x.winners)
	for i, r := range x.Results {
		x.Results[i].Games = roomy(r.Games)
	}
	return x
}

// copied shares no memory with the arguments, and has what is in their room, too.
func (x asked) copied() asked {
	x.Results, x.winners = whole(x.Results), whole(x.winners)
	for i, r := range x.Results {
		x.Results[i].Games = whole(r.Games)
	}
	return x
}

// spoil writes to all that results have.
func spoil(result any) {
	switch x := result.(type) {
	case []ladder.Pair:
		for i := range x {
			x[i] = ladder.Pair{First: seed(-7), Second: from(-7)}
		}
		_ = append(x, ladder.Pair{})
	case []ladder.Match:
		for i := range x {
			x[i] = open(-7, -7, -7, -7, -7)
		}
		_ = append(x, open(-7, -7, -7, -7, -7))
	case []int:
		for i := range x {
			x[i] = -7
		}
		_ = append(x, -7)
	}
}

// R4: arguments are not written to, and results share no memory.
func TestMemory(t *testing.T) {
	for _, form := range []uint8{ladder.Bracket, ladder.Ladder} {
		for _, results := range [][]ladder.Result{nil, {doubted(0, 4, 3)}, {doubted(0, 4, 3, 4)}} {
			for player := range 5 {
				x := asked{ladder.Cup{Form: form, Players: 5, Games: 3, Results: results}, player, list(3, 0, 1, 0), 2}.roomy()
				before, first := x.copied(), x.calls()
				for _, a := range x.calls() {
					spoil(a.result)
				}
				if !reflect.DeepEqual(x.copied(), before) {
					t.Errorf("the arguments are %v behind the calls", x)
				}
				if again := x.calls(); !reflect.DeepEqual(again, first) {
					t.Errorf("the results are %v again, not %v", again, first)
				}
			}
		}
	}
}

// P1 and the Rules' first lines: whatever the arguments are, each call returns, and returns the same again.
func TestAnyArguments(t *testing.T) {
	r := rand.New(rand.NewSource(21))
	more := append(edges(), 0, 1, 2, 3, 4, 5, 6, 14, 15, 16)
	alter := func(often int, numbers ...*int) {
		for _, n := range numbers {
			if r.Intn(often) == 0 {
				*n = more[r.Intn(len(more))]
			}
		}
	}
	var passed [2]int
	someCups(22, 6000, 16, func(_ *rand.Rand, c ladder.Cup) {
		x := asked{c, r.Intn(c.Players), make([]int, c.Players-1), r.Intn(6)}
		for i := range x.winners {
			x.winners[i] = r.Intn(c.Players)
		}
		if r.Intn(3) > 0 {
			alter(12, &x.Players, &x.Cup.Games, &x.player, &x.upsets)
			x.Form += uint8(r.Intn(10) / 9 * r.Intn(256))
			for i := range x.Results {
				alter(30, &x.Results[i].Match)
				for j := range x.Results[i].Games {
					alter(60, &x.Results[i].Games[j])
				}
			}
		}
		before := x.copied()
		if first := x.calls(); !reflect.DeepEqual(first, x.calls()) {
			t.Fatalf("not the same again: %v", x)
		}
		if !reflect.DeepEqual(x.copied(), before) {
			t.Fatalf("written to: %v, not %v", x, before)
		}
		e := ladder.CheckCup(x.Cup)
		if want := plainCheck(x.Cup); e != want {
			t.Fatalf("CheckCup of %v: %v, not %v", x.Cup, e, want)
		}
		count(passed[:], e == api.OK)
	})
	wantMany(t, 500, passed[:])
}
