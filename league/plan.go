package league

import "kingpin/api"

const maxLanes = api.MaxLeagueTeams / 2

// plan is a schedule, and how many teams it is of.
type plan struct {
	teams  int
	rounds [][]Match
}

// pair is two teams that meet, the lesser one first.
type pair struct{ a, b int }

func (m Match) pair() pair { return pair{m.A, m.B} }

func pairOf(a, b int) pair { return pair{min(a, b), max(a, b)} }

func (p plan) lanes() int { return p.teams / 2 }

// fewest is how many rounds there must be.
func (p plan) fewest() int {
	if p.teams%2 == 0 {
		return p.teams - 1
	}
	return p.teams
}

func (p plan) right() bool {
	if len(p.rounds) != p.fewest() {
		return false
	}
	met := map[pair]bool{}
	for _, round := range p.rounds {
		if !p.rightRound(round) {
			return false
		}
		for _, m := range round {
			if met[m.pair()] {
				return false
			}
			met[m.pair()] = true
		}
	}
	return len(met) == p.teams*(p.teams-1)/2
}

// rightRound tells whether the round has matches of the schedule, and no team, and no lane, twice.
func (p plan) rightRound(round []Match) bool {
	var busy [api.MaxLeagueTeams]bool
	var taken [maxLanes]bool
	for _, m := range round {
		if !p.mayHave(m) || busy[m.A] || busy[m.B] || taken[m.Lane] {
			return false
		}
		busy[m.A], busy[m.B], taken[m.Lane] = true, true, true
	}
	return true
}

func (p plan) mayHave(m Match) bool {
	return m.A >= 0 && m.A < m.B && m.B < p.teams && within(m.Lane, 0, p.lanes()-1)
}

func (p plan) uneven() int {
	most := 0
	for _, on := range p.matchesOn() {
		lanes := on[:p.lanes()]
		for _, n := range lanes {
			for _, other := range lanes {
				most = greatest(most, n-other)
			}
		}
	}
	return most
}

// matchesOn counts the matches of each team on each lane.
func (p plan) matchesOn() [api.MaxLeagueTeams][maxLanes]int {
	var on [api.MaxLeagueTeams][maxLanes]int
	for _, round := range p.rounds {
		for _, m := range round {
			on[m.A][m.Lane]++
			on[m.B][m.Lane]++
		}
	}
	return on
}

// evenest returns an evenest schedule. To try one way to pair the teams is enough: up to MaxLeagueTeams of them the rounds of each two right schedules are the same, but for their order and the numbers of the teams.
func evenest(teams int) plan {
	p := paired(teams)
	for uneven := 0; !p.giveLanes(uneven); uneven++ {
	}
	return p
}

// paired returns the rounds of a right schedule, with no lanes given. Two teams meet in the round r if their sum is 2r, modulo the number of rounds; the team r is left out, or meets the last one, if their number is even.
func paired(teams int) plan {
	p := plan{teams: teams}
	many := p.fewest()
	for round := range many {
		var matches []Match
		add := func(x pair) { matches = append(matches, Match{A: x.a, B: x.b}) }
		if many < teams {
			add(pairOf(round, many))
		}
		for i := 1; i <= many/2; i++ {
			add(pairOf((round+i)%many, (round-i+many)%many))
		}
		p.rounds = append(p.rounds, matches)
	}
	return p
}

// giveLanes gives lanes to all matches, so that the unevenness is at most this number; false, if none do.
func (p plan) giveLanes(uneven int) bool {
	var give func(round, match int) bool
	give = func(round, match int) bool {
		if round == len(p.rounds) {
			return p.uneven() <= uneven
		}
		if match == p.lanes() {
			return give(round+1, 0)
		}
		matches, found := p.rounds[round], false
	search:
		for lane := range p.lanes() {
			for _, other := range matches[:match] {
				if other.Lane == lane {
					continue search
				}
			}
			matches[match].Lane = lane
			if give(round, match+1) {
				found = true
				break search
			}
		}
		return found
	}
	return give(0, 0)
}
