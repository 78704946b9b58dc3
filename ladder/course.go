package ladder

// spot is a player that wins a match.
type spot struct{ match, winner int }

// best is how a spot is reached by the fewest upsets: how many they are, and who meets in its match.
type best struct {
	upsets  int
	players [2]int
}

// courses is a draw with all spots that some possible course has.
type courses struct {
	draw
	best map[spot]best
}

// courses goes through the matches by number: what happens on one side of a match leaves the other side as it is, so each player of the one may meet each of the other.
func (d draw) courses() courses {
	l := courses{d, map[spot]best{}}
	for n, m := range d.meets {
		for _, first := range l.may(m.First) {
			for _, second := range l.may(m.Second) {
				l.add(n, [2]int{first, second})
			}
		}
	}
	return l
}

// may are the players that the side may have, rising.
func (l courses) may(s Side) []int {
	if s.Match == None {
		return []int{s.Player}
	}
	var players []int
	for player := range l.Players {
		if _, ok := l.best[spot{s.Match, player}]; ok {
			players = append(players, player)
		}
	}
	return players
}

// add keeps who may win the match, if these players meet in it, and by how few upsets.
func (l courses) add(match int, players [2]int) {
	m := l.meets[match]
	before := sum(l.before(m.First, players[0]), l.before(m.Second, players[1]))
	for _, winner := range players {
		upset, possible := m.upset(players, winner)
		s := spot{match, winner}
		known, ok := l.best[s]
		if possible && (!ok || before+upset < known.upsets) {
			l.best[s] = best{before + upset, players}
		}
	}
}

// before is by how few upsets the side has the player.
func (l courses) before(s Side, player int) int {
	if s.Match == None {
		return 0
	}
	return l.best[spot{s.Match, player}].upsets
}

func (l courses) mayWin() []int { return l.may(winnerSide(l.last())) }

// way goes back from the last match: who has met in a match are the winners on its sides.
func (l courses) way(player int) []int {
	winners := make([]int, len(l.meets))
	winners[l.last()] = player
	for n := l.last(); n >= 0; n-- {
		met := l.best[spot{n, winners[n]}].players
		for i, e := range ends() {
			if side := e.of(l.meets[n].Pair); side.Match != None {
				winners[side.Match] = met[i]
			}
		}
	}
	return winners
}

// hangs are the settled matches that others may come to: those who have come there by the results always may.
func (l courses) hangs() []int {
	var list []int
	for n, m := range l.meets {
		if m.settled() && len(l.may(m.First))*len(l.may(m.Second)) > 1 {
			list = append(list, n)
		}
	}
	return list
}
