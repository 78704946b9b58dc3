package league_test

import (
	"math"
	"math/rand"
	"reflect"
	"slices"
	"testing"

	"kingpin/api"
	"kingpin/league"
)

// asked is all that calls may be given.
type asked struct {
	league.League
	schedule        [][]league.Match
	many, uneven    int
	rules, outcomes []uint8
	team            int
	teams           []int
}

type answer struct {
	e      api.Errno
	result any
}

func (x asked) calls() map[string]answer {
	schedule, e1 := league.Build(x.many)
	uneven, e2 := league.Uneven(x.many, x.schedule)
	ranks, e3 := league.Rank(x.League, x.rules)
	points, e4 := league.After(x.League, x.outcomes)
	can, e5 := league.CanFirst(x.League, x.team)
	surely, e6 := league.Surely(x.League, x.team)
	outcomes, e7 := league.Shows(x.League, x.team)
	reason, e8 := league.Reason(x.League, x.team)
	return map[string]answer{
		"CheckLeague":   {league.CheckLeague(x.League), 0},
		"ProveSchedule": {api.OK, league.ProveSchedule(x.many, x.schedule, x.uneven)},
		"RulesOut":      {api.OK, league.RulesOut(x.League, x.team, x.teams)},
		"Build":         {e1, schedule},
		"Uneven":        {e2, uneven},
		"Rank":          {e3, ranks},
		"After":         {e4, points},
		"CanFirst":      {e5, can},
		"Surely":        {e6, surely},
		"Shows":         {e7, outcomes},
		"Reason":        {e8, reason},
	}
}

func isNothing(result any) bool {
	switch x := result.(type) {
	case [][]league.Match:
		return len(x) == 0
	case []int:
		return len(x) == 0
	case []uint8:
		return len(x) == 0
	case bool:
		return !x
	}
	return result == 0
}

// wantAll asks all calls: those named have the error, and no result; the others have none.
func (x asked) wantAll(t *testing.T, want map[api.Errno][]string) {
	t.Helper()
	for call, a := range x.calls() {
		expected := api.OK
		for e, calls := range want {
			if slices.Contains(calls, call) {
				expected = e
			}
		}
		if a.e != expected {
			t.Errorf("%s of %v: %v, not %v", call, x, a.e, expected)
		}
		if a.e != api.OK && !isNothing(a.result) {
			t.Errorf("%s of %v: %v with %v", call, x, a.result, a.e)
		}
	}
}

// wantErrors asks all calls about a team that can be first: Reason has an error anyway.
func (x asked) wantErrors(t *testing.T, want api.Errno, calls ...string) {
	t.Helper()
	all := map[api.Errno][]string{want: calls}
	if !slices.Contains(calls, "Reason") {
		all[api.ErrNone] = []string{"Reason"}
	}
	x.wantAll(t, all)
}

var (
	leagueCalls = []string{"CheckLeague", "Rank", "After", "CanFirst", "Surely", "Shows", "Reason"}
	teamCalls   = []string{"CanFirst", "Surely", "Shows", "Reason"}
)

// good has a team that can be first, and so no error in any call but Reason.
func good() asked {
	return asked{example(), byHand()[4], 4, 3, []uint8{league.Points, league.Direct}, []uint8{league.WonB, league.Drawn}, 0, list(1, 3)}
}

// bad has nothing as it should be but the league, and the number of teams of the schedule.
func bad(l league.League) asked {
	return asked{l, nil, 4, 3, make([]uint8, 7), make([]uint8, 7), -1, list(1, 1)}
}

func edges() []int {
	return []int{math.MinInt, math.MinInt + 1, -2, -1, 7, 3001, math.MaxInt - 1, math.MaxInt}
}

// tooMany makes more games than there may be.
func tooMany() []func(l *league.League) {
	more := func(many int, g league.Game) func(l *league.League) {
		return func(l *league.League) { l.Games = append(l.Games, slices.Repeat([]league.Game{g}, many)...) }
	}
	return []func(l *league.League){more(16, won(0, 1)), more(16, open(2, 3)), more(16, league.Game{}), more(1000, even(0, 1))}
}

// invalid makes one thing each what it may just not be, or far from valid.
func invalid() []func(l *league.League) {
	changes := []func(l *league.League){
		func(l *league.League) { l.Teams = 0 },
		func(l *league.League) { l.Teams = 1 },
		func(l *league.League) { l.Teams = 3 },
		func(l *league.League) { l.Games = nil; l.Teams = 1 },
		func(l *league.League) { l.Games[0].A = 4 },
		func(l *league.League) { l.Games[4].B = 4 },
		func(l *league.League) { l.Games[0].A = 1 },
		func(l *league.League) { l.Games[4].B = 1 },
		func(l *league.League) { l.Games[3].Open = true; l.Games[3].PinsA = 1 },
		func(l *league.League) { l.Games[3].PinsB = 1 },
		func(l *league.League) { l.Games[4].PinsA = 3000 },
		func(l *league.League) { l.Games[0].Open = true },
		func(l *league.League) { l.Games[2].PinsA, l.Games[2].PinsB = 0, 1; l.Games[2].Open = true },
		func(l *league.League) { *l = and(*l, league.Game{}) },
		func(l *league.League) { *l = and(*l, league.Game{Open: true}) },
	}
	for _, n := range edges() {
		changes = append(changes,
			func(l *league.League) { l.Teams = n },
			func(l *league.League) { l.Games[0].A = n }, func(l *league.League) { l.Games[0].B = n }, func(l *league.League) { l.Games[4].A = n }, func(l *league.League) { l.Games[4].B = n }, func(l *league.League) { l.Games[0].A, l.Games[0].B = n, n },
			func(l *league.League) { l.Games[4].PinsA = n }, func(l *league.League) { l.Games[4].PinsB = n })
		if n != 7 {
			changes = append(changes, func(l *league.League) { l.Games[0].PinsA = n }, func(l *league.League) { l.Games[2].PinsB = n })
		}
	}
	return changes
}

// The row of all calls with a league, R1 and R2: the first question that applies, and no other results.
func TestErrors(t *testing.T) {
	good().wantErrors(t, api.ErrNone, "Reason")
	for call, a := range good().calls() {
		if !slices.Contains([]string{"CheckLeague", "Reason", "RulesOut", "Surely"}, call) && isNothing(a.result) {
			t.Errorf("%s: %v", call, a.result)
		}
	}
	for _, change := range tooMany() {
		x := good()
		change(&x.League)
		x.wantErrors(t, api.ErrLimit, leagueCalls...)
		for _, later := range append(invalid(), func(*league.League) {}) {
			y := bad(and(x.League))
			later(&y.League)
			if len(y.Games) > 20 {
				y.wantAll(t, map[api.Errno][]string{api.ErrLimit: leagueCalls, api.ErrLaw: {"Uneven"}})
			}
		}
	}
	for _, change := range invalid() {
		x := good()
		change(&x.League)
		x.wantErrors(t, api.ErrArg, leagueCalls...)
		bad(x.League).wantAll(t, map[api.Errno][]string{api.ErrArg: leagueCalls, api.ErrLaw: {"Uneven"}})
		if league.RulesOut(x.League, 2, list(0, 1, 3)) {
			t.Errorf("RulesOut in %v", x.League)
		}
	}
}

// What is just valid still.
func TestJustValid(t *testing.T) {
	for _, change := range []func(l *league.League){
		func(l *league.League) { l.Teams = 6 },
		func(l *league.League) { l.Teams = 2; l.Games = nil },
		func(l *league.League) { *l = of(6, slices.Repeat([]league.Game{open(0, 5), open(4, 0)}, 10)...) },
		func(l *league.League) { *l = of(2, slices.Repeat([]league.Game{played(1, 0, 3000, 3000)}, 20)...) },
		func(l *league.League) { l.Games[0].PinsA, l.Games[0].PinsB = 3000, 0 },
		func(l *league.League) { l.Games[0].PinsA, l.Games[0].PinsB = 0, 0 },
		func(l *league.League) { l.Games[0].A, l.Games[0].B = 3, 0 },
	} {
		x := good()
		change(&x.League)
		x.outcomes = slices.Repeat([]uint8{league.Drawn}, len(openGames(x.League)))
		if mustFirst(t, x.League, 0) {
			x.wantErrors(t, api.ErrNone, "Reason")
		} else {
			x.wantAll(t, map[api.Errno][]string{api.ErrFail: {"Shows"}})
		}
	}
}

// The rows of schedules: how many teams before a schedule that is not right.
func TestScheduleErrors(t *testing.T) {
	for _, n := range append(edges(), 0, 1) {
		for _, s := range [][][]league.Match{nil, byHand()[4], byHand()[2], {nil}, make([][]league.Match, 100)} {
			x := good()
			x.many, x.schedule = n, s
			x.wantErrors(t, api.ErrRange, "Build", "Uneven")
			if league.ProveSchedule(n, s, math.MaxInt) {
				t.Errorf("ProveSchedule of %d, %v", n, s)
			}
		}
	}
	for teams, right := range byHand() {
		x := good()
		x.many, x.schedule = teams, right
		x.wantErrors(t, api.ErrNone, "Reason")
		for _, s := range [][][]league.Match{nil, {nil}, make([][]league.Match, 5), make([][]league.Match, 100), append(slices.Clone(right), right...), {slices.Repeat(right[0], 1000)}} {
			x.schedule = s
			x.wantErrors(t, api.ErrLaw, "Uneven")
		}
	}
}

// The row of Rank: too many rules before one that is not listed.
func TestRankErrors(t *testing.T) {
	for _, rules := range [][]uint8{make([]uint8, 7), slices.Repeat([]uint8{1}, 7), slices.Repeat([]uint8{9}, 1000)} {
		x := good()
		x.rules = rules
		x.wantErrors(t, api.ErrLimit, "Rank")
	}
	for code := range 256 {
		for at := range 6 {
			x := good()
			x.rules = []uint8{1, 2, 3, 4, 1, 2}
			x.rules[at] = uint8(code)
			if code >= 1 && code <= 4 {
				x.wantErrors(t, api.OK)
			} else {
				x.wantErrors(t, api.ErrRange, "Rank")
			}
		}
	}
}

// The row of After: too few outcomes, too many, and such as are none.
func TestAfterErrors(t *testing.T) {
	for many := range 10 {
		x := good()
		x.outcomes = slices.Repeat([]uint8{league.WonA}, many)
		if many == 2 {
			x.wantErrors(t, api.OK)
		} else {
			x.wantErrors(t, api.ErrRange, "After")
		}
	}
	for code := range 256 {
		for at := range 2 {
			x := good()
			x.outcomes[at] = uint8(code)
			if code >= 1 && code <= 3 {
				x.wantErrors(t, api.OK)
			} else {
				x.wantErrors(t, api.ErrRange, "After")
			}
		}
	}
	x := good()
	x.League = of(4, won(0, 1))
	x.wantErrors(t, api.ErrRange, "After")
	x.outcomes = nil
	x.wantErrors(t, api.OK)
}

// The rows that ask for the team, before Shows and Reason ask whether it can be first.
func TestTeamErrors(t *testing.T) {
	for _, n := range append(edges(), 4, 5, 6) {
		x := good()
		x.team = n
		x.wantErrors(t, api.ErrRange, teamCalls...)
	}
	for team := range 4 {
		x := good()
		x.team = team
		if team == 2 {
			x.wantAll(t, map[api.Errno][]string{api.ErrFail: {"Shows"}})
		} else {
			x.wantErrors(t, api.ErrNone, "Reason")
		}
	}
}

// R3: nil and a list without elements are the same.
func TestEmpty(t *testing.T) {
	for _, games := range [][]league.Game{nil, {}} {
		for _, codes := range [][]uint8{nil, {}} {
			for _, teams := range [][]int{nil, {}} {
				for _, s := range [][][]league.Match{nil, {}, {nil}, {{}}} {
					x := asked{of(3, games...), s, 2, 0, codes, codes, 1, teams}
					x.Games = games
					x.wantErrors(t, api.ErrLaw, "Uneven")
					if league.RulesOut(x.League, x.team, x.teams) || league.ProveSchedule(2, s, 9) {
						t.Errorf("RulesOut, ProveSchedule of %v", x)
					}
				}
				if r := mustRank(t, of(3), codes); !slices.Equal(r, list(1, 1, 1)) {
					t.Errorf("Rank: %v", r)
				}
			}
		}
	}
}

// roomy has the list's elements with room behind them, which no call may use.
func roomy[T any](list []T) []T { return append(make([]T, 0, len(list)+4), list...) }

func whole[T any](list []T) []T { return slices.Clone(list[:cap(list)]) }

// copied shares no memory with the arguments, and has what is in their room, too.
func (x asked) copied() asked {
	y := x
	y.Games, y.rules, y.outcomes, y.teams = whole(x.Games), whole(x.rules), whole(x.outcomes), whole(x.teams)
	y.schedule = whole(x.schedule)
	for i, matches := range y.schedule {
		y.schedule[i] = whole(matches)
	}
	return y
}

// spoil writes to all that results have.
func spoil(result any) {
	switch x := result.(type) {
	case [][]league.Match:
		for _, matches := range x {
			for i := range matches {
				matches[i] = match(-7, -7, -7)
			}
			_ = append(matches, match(-7, -7, -7))
		}
		_ = append(x, nil)
	case []int:
		for i := range x {
			x[i] = -7
		}
		_ = append(x, -7)
	case []uint8:
		for i := range x {
			x[i] = 77
		}
		_ = append(x, 77)
	}
}

// R4: arguments are not written to, and results share no memory.
func TestMemory(t *testing.T) {
	for team := range 4 {
		x := good()
		x.team = team
		x.Games, x.rules, x.outcomes, x.teams, x.schedule = roomy(x.Games), roomy(x.rules), roomy(x.outcomes), roomy(x.teams), roomy(x.schedule)
		for i, matches := range x.schedule {
			x.schedule[i] = roomy(matches)
		}
		before, first := x.copied(), x.calls()
		for _, a := range x.calls() {
			spoil(a.result)
		}
		if !reflect.DeepEqual(x.copied(), before) {
			t.Errorf("the arguments are %v behind the calls", x)
		}
		if again := x.calls(); !reflect.DeepEqual(again, first) {
			t.Errorf("the results are %v again, not %v", again, first)
		}
	}
	for teams := 2; teams <= 6; teams++ {
		s := mustBuild(t, teams)
		for i := range s {
			other := mustBuild(t, teams)
			_ = append(other[i], match(-7, -7, -7))
			for j := range other[i] {
				other[i][j] = match(-7, -7, -7)
			}
			other[i] = s[i]
			if !reflect.DeepEqual(other, s) {
				t.Errorf("rounds of %d teams share memory: %v, not %v", teams, other, s)
			}
		}
	}
}

// P1 and the Rules' first lines: whatever the arguments are, each call returns, and returns the same again.
func TestAnyArguments(t *testing.T) {
	r := rand.New(rand.NewSource(21))
	more := append(edges(), 0, 1, 2, 3, 4, 5, 6, 20, 21, 2999, 3000)
	change := func(numbers ...*int) {
		for _, n := range numbers {
			if r.Intn(30) == 0 {
				*n = more[r.Intn(len(more))]
			}
		}
	}
	var passed [2]int
	someLeagues(22, 4000, 20, func(_ *rand.Rand, l league.League) {
		many := 2 + r.Intn(5)
		x := asked{and(l), someSchedule(r, many), many, r.Intn(7) - 1, someRules(r), someOutcomes(r, l), r.Intn(l.Teams), r.Perm(7)[:r.Intn(8)]}
		if r.Intn(3) > 0 {
			change(&x.Teams, &x.many, &x.uneven, &x.team)
			for i := range x.Games {
				if g := &x.Games[i]; r.Intn(8) == 0 {
					change(&g.A, &g.B, &g.PinsA, &g.PinsB)
				}
			}
			for _, matches := range x.schedule {
				for i := range matches {
					change(&matches[i].A, &matches[i].B, &matches[i].Lane)
				}
			}
			for i := range x.rules {
				x.rules[i] += uint8(r.Intn(20) / 19)
			}
			for i := range x.outcomes {
				x.outcomes[i] += uint8(r.Intn(20) / 19)
			}
		}
		before := x.copied()
		if first := x.calls(); !reflect.DeepEqual(first, x.calls()) {
			t.Fatalf("not the same again: %v", x)
		}
		if !reflect.DeepEqual(x.copied(), before) {
			t.Fatalf("written to: %v, not %v", x, before)
		}
		count(passed[:], league.CheckLeague(x.League) == api.OK)
	})
	wantMany(t, 200, passed[:])
}
