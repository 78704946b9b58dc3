package league_test

import (
	"math/rand"
	"slices"
	"testing"

	"kingpin/api"
	"kingpin/league"
)

// P8.6: against all right schedules: none is evener than that of Build, and one is as even.
func TestNoEvenerOne(t *testing.T) {
	for teams, ways := range map[int]int{2: 1, 3: 1, 4: 1, 5: 6, 6: 6} {
		pairings := 0
		allRounds(teams, func([][]league.Match) { pairings++ })
		if pairings != ways {
			t.Errorf("%d ways to pair %d teams, not %d", pairings, teams, ways)
		}
		least := 99
		allSchedules(teams, func(s [][]league.Match) { least = min(least, plainUneven(teams, s)) })
		if s := mustBuild(t, teams); mustUneven(t, teams, s) != least {
			t.Errorf("Build of %d: %v, not as even as %d", teams, s, least)
		}
	}
}

// firsts has of each team whether it can be first, and whether it surely is.
func firsts(t *testing.T, l league.League) (can, surely []bool) {
	t.Helper()
	for team := range l.Teams {
		can, surely = append(can, mustFirst(t, l, team)), append(surely, mustSurely(t, l, team))
	}
	return can, surely
}

// reasonOf is the team's reason, or nothing.
func reasonOf(t *testing.T, l league.League, team int) []int {
	t.Helper()
	reason, e := league.Reason(l, team)
	if e != api.OK && e != api.ErrNone {
		t.Fatalf("Reason of %d in %v: %v", team, l, e)
	}
	return reason
}

// P8.7: by all outcomes.
func TestWhateverHappens(t *testing.T) {
	var sure, out [2]int
	someLeagues(11, 400, 6, func(_ *rand.Rand, l league.League) {
		can, surely := firsts(t, l)
		var reasons [][]int
		for team := range l.Teams {
			reasons = append(reasons, reasonOf(t, l, team))
			count(sure[:], surely[team])
			count(out[:], len(reasons[team]) > 0)
		}
		allOutcomes(len(openGames(l)), func(outcomes []uint8) {
			points := mustAfter(t, l, outcomes)
			most := slices.Max(points)
			for team, n := range points {
				more := func(other int) bool { return points[other] > n }
				if n == most && !can[team] || n < most && surely[team] || len(reasons[team]) > 0 && !slices.ContainsFunc(reasons[team], more) {
					t.Fatalf("%d with %v after %v in %v: %v, %v, %v", team, points, outcomes, l, can, surely, reasons)
				}
			}
		})
	})
	wantMany(t, 100, sure[:])
	wantMany(t, 100, out[:])
}

// P8.8: shown, or proved; no list rules out one that can be first.
func TestShownOrProved(t *testing.T) {
	var kinds [2]int
	someLeagues(12, 3000, 20, func(_ *rand.Rand, l league.League) {
		for team := range l.Teams {
			outcomes, e := league.Shows(l, team)
			reason, f := league.Reason(l, team)
			can := mustFirst(t, l, team)
			if can != (e == api.OK) || can != (f == api.ErrNone) || can == (f == api.OK) {
				t.Fatalf("CanFirst, Shows, Reason of %d in %v: %v, %v, %v", team, l, can, e, f)
			}
			if can {
				points := mustAfter(t, l, outcomes)
				if slices.Max(points) != points[team] {
					t.Fatalf("Shows of %d in %v: %v, with %v", team, l, outcomes, points)
				}
			} else if !league.RulesOut(l, team, reason) {
				t.Fatalf("Reason of %d in %v: %v", team, l, reason)
			}
			for _, teams := range risingLists(l.Teams) {
				if can && league.RulesOut(l, team, teams) {
					t.Fatalf("RulesOut of %d in %v: %v", team, l, teams)
				}
			}
			count(kinds[:], can)
		}
	})
	wantMany(t, 1000, kinds[:])
}

// P8.9: an open game that is played, and leagues in which none is open.
func TestOneGameMore(t *testing.T) {
	var kinds [2]int
	someLeagues(13, 4000, 20, func(r *rand.Rand, l league.League) {
		can, surely := firsts(t, l)
		games := openGames(l)
		count(kinds[:], len(games) == 0)
		if len(games) == 0 {
			ranks := mustRank(t, l, []uint8{league.Points})
			for team := range l.Teams {
				if can[team] != surely[team] || can[team] != (ranks[team] == 1) {
					t.Fatalf("CanFirst, Surely, Rank of %d in %v: %v, %v, %d", team, l, can[team], surely[team], ranks[team])
				}
			}
			return
		}
		other := and(l)
		i := slices.Index(l.Games, games[r.Intn(len(games))])
		other.Games[i] = played(l.Games[i].A, l.Games[i].B, r.Intn(3), r.Intn(3))
		otherCan, otherSurely := firsts(t, other)
		for team := range l.Teams {
			if !can[team] && otherCan[team] || surely[team] && !otherSurely[team] {
				t.Fatalf("%d in %v: %v, %v; in %v: %v, %v", team, l, can[team], surely[team], other, otherCan[team], otherSurely[team])
			}
		}
	})
	wantMany(t, 200, kinds[:])
}

// P8.10: with one rule more; who is equal by all rules; ranks of how many are ahead.
func TestRanks(t *testing.T) {
	var apart [2]int
	someLeagues(14, 5000, 20, func(r *rand.Rand, l league.League) {
		rules := someRules(r)
		before := slices.Repeat(list(1), l.Teams)
		for i, rule := range rules {
			ranks := mustRank(t, l, rules[:i+1])
			for a := range l.Teams {
				ahead, group := 0, func(team int) bool { return before[team] == before[a] }
				for b := range l.Teams {
					if ranks[b] < ranks[a] {
						ahead++
					}
					if before[a] < before[b] && ranks[a] >= ranks[b] {
						t.Fatalf("Rank of %v by %v: %v, then %v", l, rules[:i+1], before, ranks)
					}
					if ranks[a] == ranks[b] && plainNumber(l, rule, a, group) != plainNumber(l, rule, b, group) {
						t.Fatalf("Rank of %v by %v: %v, then %v", l, rules[:i+1], before, ranks)
					}
				}
				if ranks[a] != 1+ahead {
					t.Fatalf("Rank of %v by %v: %v", l, rules[:i+1], ranks)
				}
			}
			if slices.Min(ranks) != 1 {
				t.Fatalf("Rank of %v by %v: %v", l, rules[:i+1], ranks)
			}
			count(apart[:], !slices.Equal(before, ranks))
			before = ranks
		}
	})
	wantMany(t, 1000, apart[:])
}

// exchanged has the game with its teams exchanged.
func exchanged(g league.Game) league.Game {
	return league.Game{A: g.B, B: g.A, PinsA: g.PinsB, PinsB: g.PinsA, Open: g.Open}
}

// P8.11: games in another order, and with their teams exchanged.
func TestAnyOrder(t *testing.T) {
	someLeagues(15, 3000, 20, func(r *rand.Rand, l league.League) {
		other, rules := and(l), someRules(r)
		r.Shuffle(len(other.Games), func(i, j int) { other.Games[i], other.Games[j] = other.Games[j], other.Games[i] })
		for i, g := range other.Games {
			if r.Intn(2) == 0 {
				other.Games[i] = exchanged(g)
			}
		}
		if a, b := mustRank(t, l, rules), mustRank(t, other, rules); !slices.Equal(a, b) {
			t.Fatalf("Rank by %v of %v: %v; of %v: %v", rules, l, a, other, b)
		}
		can, surely := firsts(t, l)
		otherCan, otherSurely := firsts(t, other)
		if !slices.Equal(can, otherCan) || !slices.Equal(surely, otherSurely) {
			t.Fatalf("CanFirst, Surely in %v: %v, %v; in %v: %v, %v", l, can, surely, other, otherCan, otherSurely)
		}
		for team := range l.Teams {
			if a, b := reasonOf(t, l, team), reasonOf(t, other, team); !slices.Equal(a, b) {
				t.Fatalf("Reason of %d in %v: %v; in %v: %v", team, l, a, other, b)
			}
		}
	})
}

// P8.11: points behind outcomes that are in another order, and exchanged, as the games are.
func TestPointsInAnyOrder(t *testing.T) {
	someLeagues(16, 3000, 20, func(r *rand.Rand, l league.League) {
		outcomes := someOutcomes(r, l)
		type ending struct {
			league.Game
			outcome uint8
		}
		var endings []ending
		next := 0
		for _, g := range l.Games {
			e := ending{g, 0}
			if g.Open {
				e.outcome = outcomes[next]
				next++
			}
			if r.Intn(2) == 0 {
				e.Game = exchanged(g)
				e.outcome = 4 - e.outcome
			}
			endings = append(endings, e)
		}
		r.Shuffle(len(endings), func(i, j int) { endings[i], endings[j] = endings[j], endings[i] })
		other, otherOutcomes := of(l.Teams), []uint8{}
		for _, e := range endings {
			other.Games = append(other.Games, e.Game)
			if e.Open {
				otherOutcomes = append(otherOutcomes, e.outcome)
			}
		}
		if a, b := mustAfter(t, l, outcomes), mustAfter(t, other, otherOutcomes); !slices.Equal(a, b) {
			t.Fatalf("After %v in %v: %v; %v in %v: %v", outcomes, l, a, otherOutcomes, other, b)
		}
	})
}

// P8.11: teams that are numbered otherwise.
func TestOtherNumbers(t *testing.T) {
	someLeagues(17, 3000, 20, func(r *rand.Rand, l league.League) {
		named, rules := r.Perm(l.Teams), someRules(r)
		other := and(l)
		for i, g := range other.Games {
			other.Games[i].A, other.Games[i].B = named[g.A], named[g.B]
		}
		ranks, otherRanks := mustRank(t, l, rules), mustRank(t, other, rules)
		outcomes := someOutcomes(r, l)
		points, otherPoints := mustAfter(t, l, outcomes), mustAfter(t, other, outcomes)
		can, surely := firsts(t, l)
		otherCan, otherSurely := firsts(t, other)
		for team, name := range named {
			if can[team] != otherCan[name] || surely[team] != otherSurely[name] || ranks[team] != otherRanks[name] || points[team] != otherPoints[name] {
				t.Fatalf("%d in %v, %d in %v: %v, %v; %v, %v; %v, %v; %v, %v", team, l, name, other, can, otherCan, surely, otherSurely, ranks, otherRanks, points, otherPoints)
			}
		}
	})
}

// P8.12: 2 points of each game, played or open.
func TestPoints(t *testing.T) {
	someLeagues(18, 5000, 20, func(r *rand.Rand, l league.League) {
		points, n := mustAfter(t, l, someOutcomes(r, l)), 0
		for _, p := range points {
			n += p
		}
		if len(points) != l.Teams || n != 2*len(l.Games) {
			t.Fatalf("After in %v: %v", l, points)
		}
	})
}
