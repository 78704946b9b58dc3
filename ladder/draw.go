package ladder

// meet is a match as the results tell it: its players, the games that each of them has won, and the winner, or None.
type meet struct {
	Pair
	players, won [2]int
	winner       int
	protested    bool
}

// draw is a knock-out with all its matches.
type draw struct {
	Cup
	meets []meet
}

// draw is that of the knock-out, whatever its results are: whether they are lawful is asked of it.
func (c Cup) draw() draw {
	told := map[int]Result{}
	for _, r := range c.Results {
		told[r.Match] = r
	}
	d := draw{Cup: c}
	var winners []int
	for p := range c.matches() {
		r := told[len(winners)]
		m := meet{Pair: p, players: p.playedBy(winners), protested: r.Protested}
		m.won, m.winner = c.count(r.Games, m.players)
		d.meets = append(d.meets, m)
		winners = append(winners, m.winner)
	}
	return d
}

// count counts the games that each of the players has won, up to the deciding one, and tells whose that is, or None.
func (c Cup) count(games []int, players [2]int) ([2]int, int) {
	var won [2]int
	winner := None
games:
	for _, game := range games {
		for i, player := range players {
			if game == player {
				won[i]++
			}
			if 2*won[i] > c.Games {
				winner = player
				break games
			}
		}
	}
	return won, winner
}

// lawful tells whether the result's players are known, and all its games count: one of somebody else does not, nor does one behind the deciding one.
func (d draw) lawful(r Result) bool {
	m := d.meets[r.Match]
	return m.known() && sum(m.won[:]...) == len(r.Games)
}

func (m meet) known() bool { return m.players[0] != None && m.players[1] != None }

// settled tells whether the match is decided by a result that is not protested.
func (m meet) settled() bool { return m.winner != None && !m.protested }

// next are the open matches whose players are known.
func (d draw) next() []Match {
	var list []Match
	for n, m := range d.meets {
		if m.known() && m.winner == None {
			list = append(list, Match{n, m.players[0], m.players[1], m.won[0], m.won[1]})
		}
	}
	return list
}

// upsets is how many the course with these winners has; with false if it is not possible, or no course.
func (d draw) upsets(winners []int) (int, bool) {
	total := 0
	for n, m := range d.meets {
		upset, possible := m.upset(m.playedBy(winners), winners[n])
		if !possible {
			return 0, false
		}
		total += upset
	}
	return total, true
}

// upset tells whether the winner may be that of the match, if these players meet in it, and is 1 if this is an upset.
func (m meet) upset(players [2]int, winner int) (int, bool) {
	better, worse := min(players[0], players[1]), max(players[0], players[1])
	switch {
	case m.settled() && players == m.players:
		return 0, winner == m.winner
	case winner == worse:
		return 1, true
	}
	return 0, winner == better
}
