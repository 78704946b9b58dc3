package rate

// gamesOfSheet is how many games a bowler bowls in a week.
const gamesOfSheet = 3

// makes is what the bowler makes in each game of the week, with the handicap.
func (l ledger) makes(at slot) [gamesOfSheet]int {
	blind, handicap := l.blind(at), l.handicap(at)
	made := [gamesOfSheet]int{blind, blind, blind}
	if l.has(at) {
		made = l.counting[at].Games
	}
	for game := range made {
		made[game] += handicap
	}
	return made
}

func (l ledger) team(bowlers []int, week int) [gamesOfSheet]int {
	var made [gamesOfSheet]int
	add := func(own [gamesOfSheet]int) {
		for game, n := range own {
			made[game] += n
		}
	}
	for _, bowler := range bowlers {
		add(l.makes(slot{bowler, week}))
	}
	return made
}

// points are those of each game, and of all games together, which count as one game more.
func points(home, away [gamesOfSheet]int) (forHome, forAway int) {
	others := append(away[:], sum(away[:]...))
games:
	for game, own := range append(home[:], sum(home[:]...)) {
		switch {
		case own > others[game]:
			forHome += 2
			continue games
		case own < others[game]:
			forAway += 2
			continue games
		}
		forHome++
		forAway++
	}
	return forHome, forAway
}
