package league

import (
	"iter"
	"slices"

	"kingpin/api"
)

// table is a league with the points of its teams.
type table struct {
	League
	points tally
}

// tally has a number of each team.
type tally [api.MaxLeagueTeams]int

func (l League) table() table {
	t := table{League: l}
	for team := range t.Teams {
		for g := range t.gamesOf(team) {
			t.points[team] += g.pointsA()
		}
	}
	return t
}

// gamesOf yields the games of the team, each turned so that the team is A.
func (l League) gamesOf(team int) iter.Seq[Game] {
	return func(yield func(Game) bool) {
		for _, g := range l.Games {
			if g.B == team {
				g = g.turned()
			}
			if g.A == team && !yield(g) {
				return
			}
		}
	}
}

func (g Game) turned() Game {
	g.A, g.B, g.PinsA, g.PinsB = g.B, g.A, g.PinsB, g.PinsA
	return g
}

func (g Game) pointsA() int {
	switch {
	case g.Open || g.PinsA < g.PinsB:
		return 0
	case g.PinsA == g.PinsB:
		return 1
	}
	return 2
}

// rule gives a number to a team of a group.
type rule struct {
	code   uint8
	number func(t table, team int, group []int) int
}

func rules() [4]rule {
	return [4]rule{{Points, table.byPoints}, {Wins, table.byWins}, {Direct, table.byDirect}, {Pins, table.byPins}}
}

func isRule(code uint8) bool {
	for _, r := range rules() {
		if r.code == code {
			return true
		}
	}
	return false
}

func (t table) byPoints(team int, _ []int) int { return t.points[team] }

func (t table) byWins(team int, _ []int) int {
	n := 0
	for g := range t.gamesOf(team) {
		if g.pointsA() == 2 {
			n++
		}
	}
	return n
}

func (t table) byDirect(team int, group []int) int {
	n := 0
	for g := range t.gamesOf(team) {
		if slices.Contains(group, g.B) {
			n += g.pointsA()
		}
	}
	return n
}

func (t table) byPins(team int, _ []int) int {
	n := 0
	for g := range t.gamesOf(team) {
		n += g.PinsA
	}
	return n
}

// ranks returns the ranks of all teams by the rules of these codes.
func (t table) ranks(codes []uint8) []int {
	groups := [][]int{t.teams()}
	for _, code := range codes {
		for _, r := range rules() {
			if r.code == code {
				groups = t.apart(groups, r)
			}
		}
	}
	ranks := make([]int, t.Teams)
	ahead := 0
	for _, group := range groups {
		for _, team := range group {
			ranks[team] = 1 + ahead
		}
		ahead += len(group)
	}
	return ranks
}

// teams returns the numbers of all teams.
func (l League) teams() []int {
	var teams []int
	for team := range l.Teams {
		teams = append(teams, team)
	}
	return teams
}

// apart returns the groups into which these fall by the rule, the ones ahead first.
func (t table) apart(groups [][]int, r rule) [][]int {
	var smaller [][]int
	for _, group := range groups {
		var numbers tally
		for _, team := range group {
			numbers[team] = r.number(t, team, group)
		}
		smaller = append(smaller, numbers.groups(group)...)
	}
	return smaller
}

// groups returns the teams in groups of the same number, the one with the greatest first.
func (n tally) groups(teams []int) [][]int {
	sorted := slices.Clone(teams)
	slices.SortStableFunc(sorted, func(a, b int) int { return n[b] - n[a] })
	var groups [][]int
	for i, team := range sorted {
		if i == 0 || n[team] != n[sorted[i-1]] {
			groups = append(groups, nil)
		}
		last := len(groups) - 1
		groups[last] = append(groups[last], team)
	}
	return groups
}
