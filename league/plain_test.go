package league_test

import (
	"math/rand"
	"slices"
	"testing"

	"kingpin/api"
	"kingpin/league"
)

// The slow model: by the words of the chapter, and nothing of the package but its types.

// plainRight asks each match, each two matches of a round, and each two teams.
func plainRight(teams int, s [][]league.Match) bool {
	rounds := teams
	if teams%2 == 0 {
		rounds--
	}
	if teams < 2 || teams > 6 || len(s) != rounds {
		return false
	}
	for _, round := range s {
		for i, m := range round {
			if m.A < 0 || m.B >= teams || m.A >= m.B || m.Lane < 0 || m.Lane >= teams/2 {
				return false
			}
			for _, other := range round[:i] {
				if m.A == other.A || m.A == other.B || m.B == other.A || m.B == other.B || m.Lane == other.Lane {
					return false
				}
			}
		}
	}
	for b := range teams {
		for a := range b {
			if countMatches(s, func(m league.Match) bool { return m.A == a && m.B == b }) != 1 {
				return false
			}
		}
	}
	return true
}

func countMatches(s [][]league.Match, is func(m league.Match) bool) int {
	n := 0
	for _, round := range s {
		for _, m := range round {
			if is(m) {
				n++
			}
		}
	}
	return n
}

// plainUneven asks each team and each two lanes.
func plainUneven(teams int, s [][]league.Match) int {
	most := 0
	for team := range teams {
		for lane := range teams / 2 {
			for other := range teams / 2 {
				on := func(lane int) int {
					return countMatches(s, func(m league.Match) bool { return m.Lane == lane && (m.A == team || m.B == team) })
				}
				most = max(most, on(lane)-on(other))
			}
		}
	}
	return most
}

// allRounds visits the rounds of all right schedules but for their order, with no lanes given: the first two teams that have not met yet meet in the first round that is not full.
func allRounds(teams int, visit func(rounds [][]league.Match)) {
	rounds := teams - 1 + teams%2
	s := make([][]league.Match, rounds)
	var pairs []league.Match
	for a := range teams {
		for b := a + 1; b < teams; b++ {
			pairs = append(pairs, league.Match{A: a, B: b})
		}
	}
	var add func(next int)
	add = func(next int) {
		if next == len(pairs) {
			visit(s)
			return
		}
		m := pairs[next]
		for i, round := range s {
			busy := slices.ContainsFunc(round, func(other league.Match) bool {
				return m.A == other.A || m.A == other.B || m.B == other.A || m.B == other.B
			})
			if !busy {
				s[i] = append(slices.Clone(round), m)
				add(next + 1)
				s[i] = round
			}
			// One empty round is as good as another.
			if len(round) == 0 {
				break
			}
		}
	}
	add(0)
}

// orders are all orders of so many lanes.
func orders(lanes int) [][]int {
	all := [][]int{nil}
	for lane := range lanes {
		var longer [][]int
		for _, order := range all {
			for i := range lane + 1 {
				longer = append(longer, slices.Insert(slices.Clone(order), i, lane))
			}
		}
		all = longer
	}
	return all
}

// allSchedules visits all right schedules but for the order of their rounds, and of their matches.
func allSchedules(teams int, visit func(s [][]league.Match)) {
	lanes := orders(teams / 2)
	allRounds(teams, func(rounds [][]league.Match) {
		s := make([][]league.Match, len(rounds))
		var give func(round int)
		give = func(round int) {
			if round == len(rounds) {
				visit(s)
				return
			}
			for _, order := range lanes {
				s[round] = slices.Clone(rounds[round])
				for i := range s[round] {
					s[round][i].Lane = order[i]
				}
				give(round + 1)
			}
		}
		give(0)
	})
}

// givenPoints are those that a game gives to A and to B.
func givenPoints(g league.Game) (a, b int) {
	switch {
	case g.Open:
		return 0, 0
	case g.PinsA > g.PinsB:
		return 2, 0
	case g.PinsA < g.PinsB:
		return 0, 2
	}
	return 1, 1
}

// plainPoints are those of the games of two teams that are in.
func plainPoints(l league.League, team int, in func(team int) bool) int {
	n := 0
	for _, g := range l.Games {
		if !in(g.A) || !in(g.B) {
			continue
		}
		a, b := givenPoints(g)
		if g.A == team {
			n += a
		}
		if g.B == team {
			n += b
		}
	}
	return n
}

func anyTeam(int) bool { return true }

// plainNumber is the number of the team by the rule, as one of the group of the teams that are in.
func plainNumber(l league.League, rule uint8, team int, in func(team int) bool) int {
	switch rule {
	case league.Points:
		return plainPoints(l, team, anyTeam)
	case league.Direct:
		return plainPoints(l, team, in)
	}
	won, pins := 0, 0
	for _, g := range l.Games {
		if !g.Open && (g.A == team && g.PinsA > g.PinsB || g.B == team && g.PinsB > g.PinsA) {
			won++
		}
		if g.A == team {
			pins += g.PinsA
		}
		if g.B == team {
			pins += g.PinsB
		}
	}
	if rule == league.Wins {
		return won
	}
	return pins
}

// standing tells of each two teams whether they are of one group, and whether the first one is ahead.
type standing struct{ together, ahead [6][6]bool }

func plainStanding(l league.League, rules []uint8) standing {
	var s standing
	if len(rules) == 0 {
		for a := range l.Teams {
			for b := range l.Teams {
				s.together[a][b] = true
			}
		}
		return s
	}
	before, rule := plainStanding(l, rules[:len(rules)-1]), rules[len(rules)-1]
	for a := range l.Teams {
		in := func(team int) bool { return before.together[a][team] }
		for b := range l.Teams {
			n, m := plainNumber(l, rule, a, in), plainNumber(l, rule, b, in)
			s.together[a][b] = before.together[a][b] && n == m
			s.ahead[a][b] = before.ahead[a][b] || before.together[a][b] && n > m
		}
	}
	return s
}

func plainRanks(l league.League, rules []uint8) []int {
	s, ranks := plainStanding(l, rules), make([]int, l.Teams)
	for team := range l.Teams {
		ranks[team] = 1
		for other := range l.Teams {
			if s.ahead[other][team] {
				ranks[team]++
			}
		}
	}
	return ranks
}

func openGames(l league.League) []league.Game {
	return slices.DeleteFunc(slices.Clone(l.Games), func(g league.Game) bool { return !g.Open })
}

// plainAfter are the points of all teams behind the outcomes.
func plainAfter(l league.League, outcomes []uint8) []int {
	points := make([]int, l.Teams)
	for team := range points {
		points[team] = plainPoints(l, team, anyTeam)
	}
	for i, g := range openGames(l) {
		switch outcomes[i] {
		case league.WonA:
			points[g.A] += 2
		case league.Drawn:
			points[g.A]++
			points[g.B]++
		case league.WonB:
			points[g.B] += 2
		}
	}
	return points
}

// allOutcomes visits all outcomes of so many games.
func allOutcomes(games int, visit func(outcomes []uint8)) {
	outcomes := make([]uint8, games)
	var choose func(i int)
	choose = func(i int) {
		if i == games {
			visit(outcomes)
			return
		}
		for _, outcomes[i] = range []uint8{league.WonA, league.Drawn, league.WonB} {
			choose(i + 1)
		}
	}
	choose(0)
}

// plainFirst tells of each team whether it can be first, and whether it surely is.
func plainFirst(l league.League) (can, surely [6]bool) {
	surely = [6]bool{true, true, true, true, true, true}
	allOutcomes(len(openGames(l)), func(outcomes []uint8) {
		points := plainAfter(l, outcomes)
		most := slices.Max(points)
		for team, n := range points {
			can[team] = can[team] || n == most
			surely[team] = surely[team] && n == most
		}
	})
	return can, surely
}

// plainRulesOut is of any list: the league and the team are valid.
func plainRulesOut(l league.League, team int, teams []int) bool {
	if len(teams) == 0 || !slices.IsSorted(teams) {
		return false
	}
	for i, other := range teams {
		if other < 0 || other >= l.Teams || other == team || slices.Contains(teams[:i], other) {
			return false
		}
	}
	reached, together := plainPoints(l, team, anyTeam), 0
	for _, g := range openGames(l) {
		if g.A == team || g.B == team {
			reached += 2
		}
		if slices.Contains(teams, g.A) && slices.Contains(teams, g.B) {
			together += 2
		}
	}
	for _, other := range teams {
		together += plainPoints(l, other, anyTeam)
	}
	return together > reached*len(teams)
}

// risingLists are all rising lists of teams, from the shortest to the longest, of the same length from the least to the greatest.
func risingLists(teams int) [][]int {
	lists := [][]int{nil}
	for i := 0; i < len(lists); i++ {
		first := 0
		if n := len(lists[i]); n > 0 {
			first = lists[i][n-1] + 1
		}
		for team := first; team < teams; team++ {
			lists = append(lists, append(slices.Clone(lists[i]), team))
		}
	}
	return lists
}

func plainReason(l league.League, team int) []int {
	for _, teams := range risingLists(l.Teams) {
		if plainRulesOut(l, team, teams) {
			return teams
		}
	}
	return nil
}

// Leagues by chance.

// lots are what leagues by chance have at the most; where pins are few, many games are even; of so many games one is open.
type lots struct{ teams, games, pins, open int }

func someLeague(r *rand.Rand, f lots) league.League {
	l := league.League{Teams: 2 + r.Intn(f.teams-1)}
	for range r.Intn(f.games + 1) {
		pair := r.Perm(l.Teams)
		if r.Intn(f.open) == 0 {
			l.Games = append(l.Games, open(pair[0], pair[1]))
			continue
		}
		l.Games = append(l.Games, played(pair[0], pair[1], r.Intn(f.pins+1), r.Intn(f.pins+1)))
	}
	return l
}

// someLeagues visits leagues by chance, with at most so many open games: small ones, ones with many open games, with few, and with none, and ones as large as they may be.
func someLeagues(seed int64, times, most int, visit func(r *rand.Rand, l league.League)) {
	r := rand.New(rand.NewSource(seed))
	kinds := []lots{{4, 6, 2, 2}, {6, 9, 1, 2}, {6, 20, 3, 4}, {6, 20, 3000, 3}, {3, 10, 2, 2}, {5, 20, 2, 1000}, {6, 20, 2, 1}, {6, 8, 2, 1}}
	for i := 0; i < times; {
		l := someLeague(r, kinds[r.Intn(len(kinds))])
		if len(openGames(l)) <= most {
			visit(r, l)
			i++
		}
	}
}

func someRules(r *rand.Rand) []uint8 {
	rules := make([]uint8, r.Intn(7))
	for i := range rules {
		rules[i] = uint8(1 + r.Intn(4))
	}
	return rules
}

func someOutcomes(r *rand.Rand, l league.League) []uint8 {
	outcomes := make([]uint8, len(openGames(l)))
	for i := range outcomes {
		outcomes[i] = uint8(1 + r.Intn(3))
	}
	return outcomes
}

// someSchedule is a right one, with rounds, matches, lanes and teams in any order.
func someSchedule(r *rand.Rand, teams int) [][]league.Match {
	named := r.Perm(teams)
	var s [][]league.Match
	for _, round := range byHand()[teams] {
		lanes := r.Perm(teams / 2)
		var matches []league.Match
		for i, m := range round {
			a, b := named[m.A], named[m.B]
			matches = append(matches, match(min(a, b), max(a, b), lanes[i]))
		}
		r.Shuffle(len(matches), func(i, j int) { matches[i], matches[j] = matches[j], matches[i] })
		s = append(s, matches)
	}
	r.Shuffle(len(s), func(i, j int) { s[i], s[j] = s[j], s[i] })
	return s
}

// The calls, where they must not have an error.

func mustBuild(t *testing.T, teams int) [][]league.Match {
	t.Helper()
	s, e := league.Build(teams)
	if e != api.OK {
		t.Fatalf("Build of %d: %v", teams, e)
	}
	return s
}

func mustUneven(t *testing.T, teams int, s [][]league.Match) int {
	t.Helper()
	n, e := league.Uneven(teams, s)
	if e != api.OK || !league.ProveSchedule(teams, s, n) || league.ProveSchedule(teams, s, n-1) {
		t.Fatalf("Uneven, ProveSchedule of %d, %v: %d, %v", teams, s, n, e)
	}
	return n
}

func mustRank(t *testing.T, l league.League, rules []uint8) []int {
	t.Helper()
	ranks, e := league.Rank(l, rules)
	if c := league.CheckLeague(l); e != api.OK || c != api.OK {
		t.Fatalf("Rank, CheckLeague of %v by %v: %v, %v", l, rules, e, c)
	}
	return ranks
}

func mustAfter(t *testing.T, l league.League, outcomes []uint8) []int {
	t.Helper()
	points, e := league.After(l, outcomes)
	if e != api.OK {
		t.Fatalf("After %v in %v: %v", outcomes, l, e)
	}
	return points
}

func mustFirst(t *testing.T, l league.League, team int) bool {
	t.Helper()
	can, e := league.CanFirst(l, team)
	if e != api.OK {
		t.Fatalf("CanFirst of %d in %v: %v", team, l, e)
	}
	return can
}

func mustSurely(t *testing.T, l league.League, team int) bool {
	t.Helper()
	surely, e := league.Surely(l, team)
	if e != api.OK {
		t.Fatalf("Surely of %d in %v: %v", team, l, e)
	}
	return surely
}

// P8.1: against schedules by the chapter's words, right ones, and such as are almost.
func TestSchedulesByChance(t *testing.T) {
	r := rand.New(rand.NewSource(1))
	var right [2]int
	for range 20000 {
		teams := 2 + r.Intn(5)
		s := someSchedule(r, teams)
		if r.Intn(3) > 0 {
			i := r.Intn(len(s))
			m := &s[i][r.Intn(len(s[i]))]
			*[]*int{&m.A, &m.B, &m.Lane}[r.Intn(3)] = r.Intn(teams+2) - 1
		}
		is := plainRight(teams, s)
		n, e := league.Uneven(teams, s)
		if is && (e != api.OK || n != plainUneven(teams, s)) || !is && (e != api.ErrLaw || n != 0) {
			t.Fatalf("Uneven of %d, %v: %d, %v", teams, s, n, e)
		}
		for uneven := -1; uneven <= 6; uneven++ {
			if league.ProveSchedule(teams, s, uneven) != (is && n <= uneven) {
				t.Fatalf("ProveSchedule of %d, %v with %d: %v", teams, s, uneven, !is)
			}
		}
		count(right[:], is)
	}
	wantMany(t, 5000, right[:])
}

// P8.2: against ranks by the chapter's words, of two teams each which is ahead.
func TestRanksByChance(t *testing.T) {
	var kinds [3]int
	someLeagues(2, 20000, 20, func(r *rand.Rand, l league.League) {
		rules := someRules(r)
		ranks, want := mustRank(t, l, rules), plainRanks(l, rules)
		if !slices.Equal(ranks, want) {
			t.Fatalf("Rank of %v by %v: %v, not %v", l, rules, ranks, want)
		}
		switch slices.Sort(want); {
		case want[l.Teams-1] == 1:
			kinds[0]++
		case len(slices.Compact(want)) < l.Teams:
			kinds[1]++
		default:
			kinds[2]++
		}
	})
	wantMany(t, 1000, kinds[:])
}

// P8.2: leagues of which groups fall apart by Direct, and again by Direct.
func TestDirectByChance(t *testing.T) {
	again := 0
	someLeagues(3, 20000, 20, func(r *rand.Rand, l league.League) {
		var before []int
		for n := range 5 {
			rules := append([]uint8{league.Wins}, slices.Repeat([]uint8{league.Direct}, n)...)
			ranks, want := mustRank(t, l, rules), plainRanks(l, rules)
			if !slices.Equal(ranks, want) {
				t.Fatalf("Rank of %v by %v: %v, not %v", l, rules, ranks, want)
			}
			if n >= 2 && !slices.Equal(ranks, before) {
				again++
			}
			before = ranks
		}
	})
	wantMany(t, 200, []int{again})
}

// P8.3: against points by the chapter's words.
func TestAfterByChance(t *testing.T) {
	someLeagues(4, 5000, 20, func(r *rand.Rand, l league.League) {
		outcomes := someOutcomes(r, l)
		if p, want := mustAfter(t, l, outcomes), plainAfter(l, outcomes); !slices.Equal(p, want) {
			t.Fatalf("After %v in %v: %v, not %v", outcomes, l, p, want)
		}
	})
}

// P8.4: against all outcomes.
func TestFirstByChance(t *testing.T) {
	var can, surely [2]int
	someLeagues(5, 3000, 7, func(r *rand.Rand, l league.League) {
		wantCan, wantSurely := plainFirst(l)
		for team := range l.Teams {
			if mustFirst(t, l, team) != wantCan[team] || mustSurely(t, l, team) != wantSurely[team] {
				t.Fatalf("CanFirst, Surely of %d in %v: not %v, %v", team, l, wantCan[team], wantSurely[team])
			}
			count(can[:], wantCan[team])
			count(surely[:], wantSurely[team])
		}
	})
	wantMany(t, 1000, can[:])
	wantMany(t, 1000, surely[:])
}

// P8.5: against all lists by the chapter's words; outcomes that are shown are asked whether they do.
func TestReasonsByChance(t *testing.T) {
	var lengths [6]int
	someLeagues(6, 4000, 20, func(r *rand.Rand, l league.League) {
		for team := range l.Teams {
			want := plainReason(l, team)
			reason, e := league.Reason(l, team)
			if !slices.Equal(reason, want) || (e == api.OK) != (len(want) > 0) || e != api.OK && e != api.ErrNone {
				t.Fatalf("Reason of %d in %v: %v, %v, not %v", team, l, reason, e, want)
			}
			outcomes, f := league.Shows(l, team)
			if f == api.OK {
				points := plainAfter(l, outcomes)
				if len(outcomes) != len(openGames(l)) || slices.Max(points) != points[team] {
					t.Fatalf("Shows of %d in %v: %v", team, l, outcomes)
				}
			}
			if (f == api.OK) == (e == api.OK) || f != api.OK && f != api.ErrFail {
				t.Fatalf("Shows, Reason of %d in %v: %v, %v", team, l, f, e)
			}
			lengths[len(want)]++
		}
	})
	wantMany(t, 4, lengths[:])
}

// P8.5: against all lists, rising and not, of teams that are there and not.
func TestRulesOutByChance(t *testing.T) {
	var kinds [2]int
	someLeagues(7, 3000, 20, func(r *rand.Rand, l league.League) {
		lists := risingLists(l.Teams)
		for range 5 {
			other := r.Perm(8)[:1+r.Intn(6)]
			for i := range other {
				other[i]--
			}
			lists = append(lists, other, append(slices.Sorted(slices.Values(other)), other[0]))
		}
		for _, teams := range lists {
			team := r.Intn(l.Teams)
			want := plainRulesOut(l, team, teams)
			if league.RulesOut(l, team, teams) != want {
				t.Fatalf("RulesOut of %d by %v in %v: not %v", team, teams, l, want)
			}
			count(kinds[:], want)
		}
	})
	wantMany(t, 2000, kinds[:])
}

// count counts what is not so first, then what is.
func count(kinds []int, is bool) {
	if is {
		kinds[1]++
	} else {
		kinds[0]++
	}
}

// wantMany tells if a test by chance has not met all kinds of cases.
func wantMany(t *testing.T, least int, kinds []int) {
	t.Helper()
	if slices.Min(kinds) < least {
		t.Errorf("too few of some kind: %v", kinds)
	}
}
