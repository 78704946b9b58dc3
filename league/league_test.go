package league_test

import (
	"math"
	"slices"
	"testing"

	"kingpin/api"
	"kingpin/league"
)

func list(x ...int) []int { return x }

func played(a, b, pinsA, pinsB int) league.Game {
	return league.Game{A: a, B: b, PinsA: pinsA, PinsB: pinsB}
}

func open(a, b int) league.Game { return league.Game{A: a, B: b, Open: true} }

// won is a game that A has won, even one that neither has.
func won(a, b int) league.Game { return played(a, b, 2, 1) }

func even(a, b int) league.Game { return played(a, b, 1, 1) }

func of(teams int, games ...league.Game) league.League {
	return league.League{Teams: teams, Games: games}
}

// and is the league with more games.
func and(l league.League, games ...league.Game) league.League {
	l.Games = slices.Concat(l.Games, games)
	return l
}

// example is the league of the chapter's examples.
func example() league.League {
	return of(4, played(0, 1, 700, 650), played(2, 3, 610, 600), played(1, 2, 680, 640), open(0, 3), open(1, 3))
}

func match(a, b, lane int) league.Match { return league.Match{A: a, B: b, Lane: lane} }

func round(matches ...league.Match) []league.Match { return matches }

// on puts matches on lanes, from 0 up: each two teams are one.
func on(teams ...int) []league.Match {
	var matches []league.Match
	for i := 0; i < len(teams); i += 2 {
		matches = append(matches, match(teams[i], teams[i+1], i/2))
	}
	return matches
}

// byHand are right schedules of each number of teams.
func byHand() map[int][][]league.Match {
	return map[int][][]league.Match{
		2: {on(0, 1)},
		3: {on(0, 1), on(0, 2), on(1, 2)},
		4: {on(0, 1, 2, 3), on(0, 2, 1, 3), on(0, 3, 1, 2)},
		5: {on(0, 1, 2, 3), on(0, 2, 1, 4), on(0, 3, 2, 4), on(0, 4, 1, 3), on(1, 2, 3, 4)},
		6: {on(0, 1, 2, 3, 4, 5), on(0, 2, 1, 4, 3, 5), on(0, 3, 2, 4, 1, 5), on(0, 4, 1, 3, 2, 5), on(0, 5, 1, 2, 3, 4)},
	}
}

// The chapter's examples.
func TestExamples(t *testing.T) {
	const points, direct, pins = league.Points, league.Direct, league.Pins
	l := example()
	for _, x := range []struct {
		rules []uint8
		want  []int
	}{{[]uint8{points}, list(1, 1, 1, 4)}, {[]uint8{points, direct}, list(1, 1, 3, 4)}, {[]uint8{points, direct, direct}, list(1, 2, 3, 4)}, {[]uint8{points, pins}, list(3, 1, 2, 4)}} {
		if r := mustRank(t, l, x.rules); !slices.Equal(r, x.want) {
			t.Errorf("Rank by %v: %v", x.rules, r)
		}
	}
	if p := mustAfter(t, l, []uint8{league.WonB, league.Drawn}); !slices.Equal(p, list(2, 3, 2, 3)) {
		t.Errorf("After: %v", p)
	}
	for team, want := range map[int]bool{0: true, 2: false, 3: true} {
		if can := mustFirst(t, l, team); can != want {
			t.Errorf("CanFirst of %d: %v", team, can)
		}
	}
	if r, e := league.Reason(l, 2); e != api.OK || !slices.Equal(r, list(0, 1, 3)) {
		t.Errorf("Reason of 2: %v, %v", r, e)
	}
	for teams, want := range map[int]int{4: 3, 6: 1} {
		if n := mustUneven(t, teams, mustBuild(t, teams)); n != want {
			t.Errorf("Uneven of Build of %d: %d", teams, n)
		}
	}
}

// P8.1: by hand: on one lane nothing is uneven; four matches can be shared out on two lanes, five on three lanes but for one; of four teams one has all matches on one lane.
func TestBuild(t *testing.T) {
	for teams, want := range map[int]int{2: 0, 3: 0, 4: 3, 5: 0, 6: 1} {
		s := mustBuild(t, teams)
		if !plainRight(teams, s) {
			t.Errorf("Build of %d: %v is not right", teams, s)
		}
		if n := mustUneven(t, teams, s); n != want || n != plainUneven(teams, s) {
			t.Errorf("Build of %d: %v, of %d", teams, s, n)
		}
	}
}

// P8.1: by hand; the number uneven may be anything.
func TestUneven(t *testing.T) {
	for teams, want := range map[int]int{2: 0, 3: 0, 4: 3, 5: 4, 6: 5} {
		s := byHand()[teams]
		if n := mustUneven(t, teams, s); n != want {
			t.Errorf("Uneven of %v: %d, not %d", s, n, want)
		}
		for uneven, proved := range map[int]bool{want: true, want + 1: true, math.MaxInt: true, want - 1: false, -1: false, math.MinInt: false} {
			if league.ProveSchedule(teams, s, uneven) != proved {
				t.Errorf("ProveSchedule of %v with %d: not %v", s, uneven, proved)
			}
		}
	}
	// Each team has two matches on both lanes; with the lanes of one round exchanged four of them have three on one.
	s := [][]league.Match{{match(0, 1, 0), match(2, 3, 1)}, {match(0, 2, 0), match(1, 4, 1)}, {match(0, 3, 1), match(2, 4, 0)}, {match(0, 4, 1), match(1, 3, 0)}, {match(3, 4, 0), match(1, 2, 1)}}
	if n := mustUneven(t, 5, s); n != 0 {
		t.Errorf("Uneven of %v: %d", s, n)
	}
	s[4] = round(match(3, 4, 1), match(1, 2, 0))
	if n := mustUneven(t, 5, s); n != 2 {
		t.Errorf("Uneven of %v: %d", s, n)
	}
}

// P8.1: schedules that are almost right.
func TestNotRight(t *testing.T) {
	for teams, s := range byHand() {
		last := len(s) - 1
		for name, other := range map[string][][]league.Match{
			"no rounds": nil, "a round less": s[:last], "an empty round more": append(slices.Clone(s), nil), "a round twice": append(slices.Clone(s), s[0]),
			"an empty round": append(slices.Clone(s[:last]), nil), "a round again": append(slices.Clone(s[1:]), s[last]), "a match less": append(slices.Clone(s[:last]), s[last][1:]), "a match twice in a round": append(slices.Clone(s[:last]), append(slices.Clone(s[last]), s[last][0])),
		} {
			if teams == 2 && name == "a round again" {
				continue
			}
			if _, e := league.Uneven(teams, other); e != api.ErrLaw || league.ProveSchedule(teams, other, 99) {
				t.Errorf("Uneven of %v, %s: %v", other, name, e)
			}
		}
		for _, m := range []league.Match{match(0, 0, 0), match(1, 0, 0), match(0, teams, 0), match(teams, teams+1, 0), match(-1, 1, 0), match(0, 1, -1), match(0, 1, teams/2), match(0, 1, 3), match(math.MinInt, 1, 0), match(0, math.MaxInt, 0), match(0, 1, math.MaxInt), match(0, 1, math.MinInt)} {
			other := slices.Clone(s)
			other[0] = append(round(m), s[0][1:]...)
			if _, e := league.Uneven(teams, other); e != api.ErrLaw || league.ProveSchedule(teams, other, 99) {
				t.Errorf("Uneven of %v: %v", other, e)
			}
		}
	}
	for _, s := range [][][]league.Match{
		// Two matches of a team in a round, on lanes of their own; and a lane twice.
		{round(match(0, 1, 0), match(0, 2, 1)), round(match(2, 3, 0), match(1, 3, 1)), on(0, 3, 1, 2)},
		{round(match(0, 1, 0), match(1, 2, 1)), round(match(2, 3, 0), match(0, 2, 1)), round(match(0, 3, 0), match(1, 3, 1))},
		{on(0, 1, 1, 3), on(0, 2, 2, 3), on(0, 3, 1, 2)}, {on(1, 3, 0, 1), on(2, 3, 0, 2), on(0, 3, 1, 2)},
		{round(match(0, 1, 0), match(2, 3, 0)), on(0, 2, 1, 3), on(0, 3, 1, 2)},
		{on(0, 1, 2, 3), on(0, 2, 1, 3), round(match(0, 3, 1), match(1, 2, 1))},
		// A match of each two teams, in rounds of which the first one is too large, or in more than there must be.
		{on(0, 1, 2, 3, 0, 2), on(1, 3), on(0, 3, 1, 2)},
		{on(0, 1), on(2, 3), on(0, 2), on(1, 3), on(0, 3), on(1, 2)},
		// Two teams meet twice, others never.
		{on(0, 1, 2, 3), on(0, 1, 2, 3), on(0, 2, 1, 3)}, {on(0, 1, 2, 3), on(0, 2, 1, 3), round(match(2, 3, 0), match(0, 1, 1))},
		// The team 4 is one of five.
		{on(0, 1, 2, 3), on(0, 2, 1, 4), on(0, 3, 2, 4)},
	} {
		if _, e := league.Uneven(4, s); e != api.ErrLaw || league.ProveSchedule(4, s, 99) {
			t.Errorf("Uneven of %v: %v", s, e)
		}
	}
	for teams, s := range byHand() {
		for _, others := range list(2, 3, 4, 5, 6) {
			if _, e := league.Uneven(others, s); (e == api.OK) != (teams == others) {
				t.Errorf("Uneven of %v for %d: %v", s, others, e)
			}
		}
	}
}

// P8.2: by hand: leagues without games, with none that is open, with open games alone; teams that meet several times.
func TestRank(t *testing.T) {
	const points, wins, direct, pins = league.Points, league.Wins, league.Direct, league.Pins
	by := func(rules ...uint8) []uint8 { return rules }
	// 0 has won two games of 1, and lost one of it; all three have lost and won one of 2, with more pins the farther behind.
	often := of(3, played(0, 1, 10, 9), played(1, 0, 8, 9), played(0, 1, 1, 5), played(0, 2, 3, 2), played(2, 0, 50, 20), played(1, 2, 4, 3), played(2, 1, 60, 30))
	// 0, 1 and 2 have four points each, 3 and 4 two; of the games of the three 0 has 4, 1 and 2 have 2; of the game of 1 and 2 1 has both.
	five := of(5, won(0, 1), even(0, 2), won(1, 2), even(2, 0), won(1, 3), won(2, 4), won(3, 4), won(4, 3))
	// 0 to 3 have won two games each of the others: by Direct 0 and 1 have two, 2 and 3 one; then 0 has won one of 1, 3 of 2.
	falls := of(6, won(0, 1), won(0, 2), won(1, 2), won(1, 3), won(2, 3), won(3, 0), won(2, 4), won(3, 5))
	for _, x := range []struct {
		l     league.League
		rules []uint8
		want  []int
	}{
		{of(2), nil, list(1, 1)}, {of(6), nil, list(1, 1, 1, 1, 1, 1)}, {of(6), by(points, wins, direct, pins, points, pins), list(1, 1, 1, 1, 1, 1)},
		{example(), nil, list(1, 1, 1, 1)}, {example(), by(), list(1, 1, 1, 1)}, {of(3, open(0, 1), open(1, 0), open(2, 1)), by(points, wins, direct, pins), list(1, 1, 1)},
		// An open game counts for nothing: neither are its pins equal.
		{of(2, open(0, 1), won(0, 1)), by(points), list(1, 2)}, {of(3, open(0, 1), even(0, 2)), by(points), list(1, 3, 1)}, {of(3, open(0, 1), even(0, 2)), by(direct), list(1, 3, 1)}, {of(3, open(0, 1), open(1, 0)), by(wins), list(1, 1, 1)},
		// Each rule alone, and one several times.
		{often, by(points), list(1, 2, 2)}, {often, by(wins), list(1, 2, 2)}, {often, by(direct), list(1, 2, 2)}, {often, by(pins), list(3, 2, 1)}, {often, by(points, points, points), list(1, 2, 2)}, {often, by(pins, pins, pins, pins, pins, pins), list(3, 2, 1)},
		{often, by(points, direct), list(1, 2, 2)}, {often, by(points, pins), list(1, 3, 2)}, {often, by(pins, points), list(3, 2, 1)},
		{of(2, played(0, 1, 3000, 0), played(1, 0, 1, 0), played(1, 0, 1, 0)), by(points), list(2, 1)}, {of(2, played(0, 1, 3000, 0), played(1, 0, 1, 0), played(1, 0, 1, 0)), by(pins), list(1, 2)},
		// One game won has as many points as two that are even, not as many wins.
		{of(3, won(0, 2), even(1, 2), even(1, 2)), by(points), list(1, 1, 1)}, {of(3, won(0, 2), even(1, 2), even(1, 2)), by(wins), list(1, 2, 2)}, {of(3, won(0, 2), even(1, 2), even(1, 2)), by(wins, points), list(1, 2, 2)}, {of(3, won(0, 2), even(1, 2), even(1, 2)), by(points, wins), list(1, 2, 2)}, {of(3, won(0, 2), even(1, 2), even(1, 2)), by(points, direct), list(1, 1, 1)},
		// A group that falls apart by Direct, and by Direct again.
		{five, by(points), list(1, 1, 1, 4, 4)}, {five, by(points, direct), list(1, 2, 2, 4, 4)}, {five, by(points, direct, direct), list(1, 2, 3, 4, 4)}, {five, by(points, wins), list(2, 1, 2, 4, 4)}, {five, by(points, wins, direct), list(2, 1, 2, 4, 4)},
		{falls, by(points), list(1, 1, 1, 1, 5, 5)}, {falls, by(points, direct), list(1, 1, 3, 3, 5, 5)}, {falls, by(points, direct, direct), list(1, 2, 3, 4, 5, 5)}, {falls, by(points, direct, direct, direct), list(1, 2, 3, 4, 5, 5)}, {falls, by(direct, points), list(1, 1, 1, 1, 5, 5)}, {falls, by(direct, direct), list(1, 1, 3, 3, 5, 5)},
		{example(), by(direct), list(1, 1, 1, 4)}, {example(), by(direct, direct), list(1, 1, 3, 4)}, {example(), by(direct, direct, direct), list(1, 2, 3, 4)}, {example(), by(pins, direct), list(3, 1, 2, 4)}, {example(), by(wins, pins), list(3, 1, 2, 4)},
	} {
		if r := mustRank(t, x.l, x.rules); !slices.Equal(r, x.want) {
			t.Errorf("Rank of %v by %v: %v, not %v", x.l, x.rules, r, x.want)
		}
	}
}

// P8.3: by hand; as many games as may be.
func TestAfter(t *testing.T) {
	const a, d, b = league.WonA, league.Drawn, league.WonB
	many := of(6, slices.Repeat([]league.Game{open(5, 2)}, 20)...)
	for _, x := range []struct {
		l        league.League
		outcomes []uint8
		want     []int
	}{
		{of(2), nil, list(0, 0)}, {of(6), []uint8{}, list(0, 0, 0, 0, 0, 0)}, {of(3, won(0, 1), even(2, 1)), nil, list(2, 1, 1)}, {of(2, played(1, 0, 0, 0)), nil, list(1, 1)},
		{of(2, open(0, 1)), []uint8{a}, list(2, 0)}, {of(2, open(0, 1)), []uint8{d}, list(1, 1)}, {of(2, open(0, 1)), []uint8{b}, list(0, 2)}, {of(2, open(1, 0)), []uint8{a}, list(0, 2)}, {of(2, open(1, 0)), []uint8{b}, list(2, 0)},
		// The outcomes are in the order of the games, those that were played left out.
		{of(4, open(0, 1), won(2, 3), open(2, 3), even(0, 3), open(3, 1)), []uint8{a, d, b}, list(3, 2, 3, 2)}, {of(4, open(0, 1), won(2, 3), open(2, 3), even(0, 3), open(3, 1)), []uint8{b, a, d}, list(1, 3, 4, 2)},
		{example(), []uint8{a, a}, list(4, 4, 2, 0)}, {example(), []uint8{b, b}, list(2, 2, 2, 4)}, {example(), []uint8{d, a}, list(3, 4, 2, 1)},
		{many, slices.Repeat([]uint8{a}, 20), list(0, 0, 0, 0, 0, 40)}, {many, slices.Repeat([]uint8{d}, 20), list(0, 0, 20, 0, 0, 20)}, {many, slices.Repeat([]uint8{b, d}, 10), list(0, 0, 30, 0, 0, 10)},
	} {
		if p := mustAfter(t, x.l, x.outcomes); !slices.Equal(p, x.want) {
			t.Errorf("After %v in %v: %v, not %v", x.outcomes, x.l, p, x.want)
		}
	}
}

// P8.4, P8.5: by hand; a team that surely is first, one that can be, and one that cannot, with its reason.
func TestFirst(t *testing.T) {
	// 0 has 2 points and no more games; 1 and 2 have one each, and 1 to 3 a game of each other.
	ring := of(4, even(0, 1), even(0, 2), open(1, 2), open(1, 3), open(2, 3))
	for _, x := range []struct {
		l      league.League
		team   int
		can    bool
		surely bool
		reason []int
	}{
		{of(2), 1, true, true, nil}, {of(6), 3, true, true, nil}, {of(6, open(0, 1)), 0, true, false, nil}, {of(6, open(0, 1)), 2, false, false, list(0, 1)}, {of(2, open(0, 1)), 0, true, false, nil}, {of(2, open(0, 1), open(1, 0)), 1, true, false, nil},
		// Without open games: as many points as any, or not.
		{of(3, even(0, 1)), 0, true, true, nil}, {of(3, even(0, 1)), 1, true, true, nil}, {of(3, even(0, 1)), 2, false, false, list(0)}, {of(3, won(1, 0)), 2, false, false, list(1)}, {of(3, won(1, 0)), 1, true, true, nil},
		// So many points ahead that the other one can just reach as many, or one more.
		{of(2, won(0, 1), open(0, 1)), 0, true, true, nil}, {of(2, won(0, 1), even(0, 1), open(0, 1)), 1, true, false, nil}, {of(2, won(0, 1), even(0, 1), won(0, 1), open(0, 1)), 1, false, false, list(0)}, {of(2, won(0, 1), open(0, 1), open(0, 1)), 0, true, false, nil}, {of(3, won(0, 1), won(0, 1), open(1, 2), open(1, 2)), 0, true, true, nil}, {of(3, won(0, 1), won(0, 1), open(1, 2), open(1, 2), open(2, 1)), 0, true, false, nil},
		{of(3, won(0, 1), won(0, 1), open(1, 2), open(1, 2)), 1, true, false, nil},
		// Another one can reach more, though no game of the team is open; and two of them, but not both.
		{of(3, won(0, 1), open(1, 2), open(1, 2)), 0, true, false, nil}, {of(3, even(0, 1), open(1, 2)), 0, false, false, list(1, 2)}, {of(4, won(0, 1), open(2, 3), open(2, 3), open(2, 3)), 0, false, false, list(2, 3)}, {of(4, won(0, 1), open(2, 3), open(2, 3)), 0, true, false, nil},
		{ring, 0, false, false, list(1, 2, 3)}, {ring, 1, true, false, nil}, {ring, 3, true, false, nil}, {and(ring, open(0, 3)), 0, true, false, nil}, {of(4, even(0, 3), even(0, 3), open(1, 2), open(1, 3), open(2, 3)), 0, false, false, list(1, 2, 3)}, {of(4, even(0, 1), even(0, 1), even(0, 1), open(1, 2), open(1, 3), open(2, 3)), 0, true, false, nil},
		// Several lists rule the team out: the shortest one is the reason, of several the least one.
		{of(4, won(1, 0), won(3, 0), won(2, 0)), 0, false, false, list(1)}, {of(4, won(3, 0), won(1, 0), won(2, 0), won(2, 3)), 0, false, false, list(1)}, {of(4, won(0, 1), won(3, 1), won(3, 2), open(1, 2)), 0, false, false, list(3)}, {of(5, open(1, 3), open(1, 2), open(2, 3)), 0, false, false, list(1, 2)}, {of(5, open(1, 3), open(2, 4), open(2, 3)), 0, false, false, list(1, 3)}, {of(5, open(3, 4), open(2, 3)), 0, false, false, list(2, 3)}, {of(5, open(3, 4), open(1, 2)), 0, false, false, list(1, 2)}, {of(5, open(3, 4), open(0, 2)), 1, false, false, list(0, 2)}, {of(6, open(4, 5), even(0, 1)), 1, true, false, nil}, {of(6, open(5, 4), even(0, 1)), 3, false, false, list(0)}, {of(6, open(4, 5), open(4, 5), even(0, 1)), 1, false, false, list(4, 5)},
		// The shortest one counts before the least one: 1, 2 and 3 rule the team out, too.
		{of(6, even(0, 1), even(0, 3), open(1, 2), open(1, 3), open(2, 3), open(4, 5), open(4, 5), open(4, 5)), 0, false, false, list(4, 5)}, {of(6, even(0, 1), even(0, 3), open(1, 2), open(1, 3), open(2, 3), open(4, 5), open(4, 5)), 0, false, false, list(1, 2, 3)},
		// All others are needed: 13 points of four teams with 3 each, and 22 of five with 4; 20 can be shared out.
		{of(5, even(0, 1), won(0, 2), open(1, 2), open(1, 3), open(1, 4), open(2, 3), open(2, 4), open(3, 4)), 0, false, false, list(1, 2, 3, 4)}, {of(6, won(0, 1), won(0, 1), open(1, 2), open(1, 3), open(1, 4), open(1, 5), open(2, 3), open(2, 4), open(2, 5), open(3, 4), open(3, 5), open(4, 5)), 0, true, false, nil}, {of(6, won(0, 1), even(0, 1), even(0, 2), open(1, 2), open(1, 3), open(1, 4), open(1, 5), open(2, 3), open(2, 4), open(2, 5), open(3, 4), open(3, 5), open(4, 5)), 0, false, false, list(1, 2, 3, 4, 5)},
	} {
		wantFirst(t, x.l, x.team, x.can, x.surely, x.reason)
	}
}

func wantFirst(t *testing.T, l league.League, team int, can, surely bool, reason []int) {
	t.Helper()
	if is := mustFirst(t, l, team); is != can {
		t.Errorf("CanFirst of %d in %v: %v", team, l, is)
	}
	if is := mustSurely(t, l, team); is != surely {
		t.Errorf("Surely of %d in %v: %v", team, l, is)
	}
	o, e := league.Shows(l, team)
	r, f := league.Reason(l, team)
	if !can {
		if e != api.ErrFail || len(o) != 0 || f != api.OK || !slices.Equal(r, reason) || !league.RulesOut(l, team, r) {
			t.Errorf("Shows, Reason of %d in %v: %v, %v, %v, %v, not %v", team, l, o, e, r, f, reason)
		}
		return
	}
	if f != api.ErrNone || len(r) != 0 || e != api.OK {
		t.Errorf("Shows, Reason of %d in %v: %v, %v, %v, %v", team, l, o, e, r, f)
		return
	}
	if p := mustAfter(t, l, o); slices.Max(p) != p[team] {
		t.Errorf("Shows of %d in %v: %v, with the points %v", team, l, o, p)
	}
}

// P8.5: lists that rule out, and such as are no lists of other teams, or no leagues.
func TestRulesOut(t *testing.T) {
	l := example()
	lower := of(5, won(1, 0), won(2, 0), won(4, 0), open(1, 2))
	for _, x := range []struct {
		l     league.League
		team  int
		teams []int
		want  bool
	}{
		{l, 2, list(0, 1, 3), true}, {l, 2, list(0, 1), false}, {l, 2, list(0, 3), false}, {l, 2, list(1, 3), false}, {l, 2, list(0), false}, {l, 0, list(1, 2, 3), false}, {l, 3, list(0, 1, 2), false},
		{l, 2, nil, false}, {l, 2, list(), false}, {l, 2, list(0, 3, 1), false}, {l, 2, list(3, 1, 0), false}, {l, 2, list(0, 1, 1, 3), false}, {l, 2, list(0, 1, 3, 3), false}, {l, 2, list(0, 1, 2, 3), false}, {l, 2, list(-1, 0, 1, 3), false}, {l, 2, list(0, 1, 3, 4), false}, {l, 2, list(0, 1, 3, math.MaxInt), false}, {l, 2, list(math.MinInt, 0, 1, 3), false}, {l, 4, list(0, 1, 3), false}, {l, -1, list(0, 1, 3), false}, {l, math.MinInt, list(0), false}, {l, math.MaxInt, list(0), false},
		// Each one of these, and some together.
		{lower, 0, list(1), true}, {lower, 0, list(2), true}, {lower, 0, list(3), false}, {lower, 0, list(4), true}, {lower, 0, list(1, 2), true}, {lower, 0, list(1, 2, 3, 4), true}, {lower, 0, list(2, 1), false}, {lower, 0, list(3, 4), true}, {lower, 0, list(0), false}, {lower, 0, list(0, 1), false}, {lower, 4, list(1), false}, {lower, 4, list(1, 2), true}, {lower, 4, list(1, 2, 3), false}, {lower, 3, list(0), false}, {lower, 3, list(0, 4), true},
		// Just as much as the team can reach is not more.
		{of(3, open(1, 2), even(0, 1)), 0, list(1, 2), true}, {of(3, open(1, 2), even(0, 1), open(0, 2)), 0, list(1, 2), false}, {of(3, open(1, 2), won(1, 0), won(2, 0), open(0, 2)), 0, list(1, 2), true}, {of(3, open(1, 2), won(1, 0), even(1, 0)), 0, list(1), true}, {of(3, open(1, 2), even(1, 2), open(0, 1)), 0, list(1, 2), false}, {of(3, open(1, 2), even(1, 2), even(1, 0), open(0, 1)), 0, list(1, 2), false}, {of(3, open(1, 2), even(1, 2), even(1, 0), even(0, 1)), 0, list(1, 2), true},
		// The league is not valid.
		{of(1), 0, list(1), false}, {of(7, won(1, 0)), 0, list(1), false}, {and(lower, won(1, 1)), 0, list(1), false}, {and(lower, won(5, 0)), 0, list(1), false}, {and(lower, slices.Repeat([]league.Game{won(1, 0)}, 17)...), 0, list(1), false}, {and(lower, slices.Repeat([]league.Game{won(1, 0)}, 16)...), 0, list(1), true},
	} {
		if league.RulesOut(x.l, x.team, x.teams) != x.want {
			t.Errorf("RulesOut of %d by %v in %v: not %v", x.team, x.teams, x.l, x.want)
		}
	}
}

// The limits, the rules and the outcomes are those of the chapter.
func TestNumbers(t *testing.T) {
	if api.MaxLeagueTeams != 6 || api.MaxLeagueGames != 20 || api.MaxLeaguePins != 3000 || api.MaxLeagueRules != 6 {
		t.Error("other limits")
	}
	if [4]uint8{league.Points, league.Wins, league.Direct, league.Pins} != [4]uint8{1, 2, 3, 4} {
		t.Error("other rules")
	}
	if [3]uint8{league.WonA, league.Drawn, league.WonB} != [3]uint8{1, 2, 3} {
		t.Error("other outcomes")
	}
}
