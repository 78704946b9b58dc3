package league

import (
	"cmp"
	"slices"
)

// chase is the league as it is for a team that wants to be first.
type chase struct {
	table
	team int
}

func (l League) chaseOf(team int) chase { return chase{l.table(), team} }

func (c chase) isOther(team int) bool { return team != c.team && c.has(team) }

func (c chase) others() []int {
	return slices.DeleteFunc(c.teams(), func(team int) bool { return team == c.team })
}

// reach is what the team has if it wins all its open games.
func (t table) reach(team int) int {
	return t.points[team] + 2*t.openWith(team, t.teams())
}

// openWith counts the team's open games with these teams.
func (l League) openWith(team int, others []int) int {
	n := 0
	for g := range l.gamesOf(team) {
		if g.Open && slices.Contains(others, g.B) {
			n++
		}
	}
	return n
}

func (c chase) rulesOut(list []int) bool {
	n := 0
	for _, other := range list {
		// The open games of two teams of the list are counted for both of them: 2 points for each.
		n += c.points[other] + c.openWith(other, list)
	}
	return n > c.reach(c.team)*len(list)
}

// reason returns the shortest list that rules the team out, of several the least; false, if none does.
func (c chase) reason() (list []int, ok bool) {
	lists := c.lists()
	i := slices.IndexFunc(lists, c.rulesOut)
	if i < 0 {
		return nil, false
	}
	return lists[i], true
}

// lists returns all rising lists of other teams, the shortest first, of the same length the least.
func (c chase) lists() [][]int {
	lists := [][]int{nil}
	for _, other := range c.others() {
		for _, list := range lists {
			lists = append(lists, append(slices.Clone(list), other))
		}
	}
	slices.SortFunc(lists, func(a, b []int) int {
		return cmp.Or(cmp.Compare(len(a), len(b)), slices.Compare(a, b))
	})
	return lists
}

// canFirst tells whether no list rules the team out: then the team can win its open games, and the points of the other ones can be shared out so that nobody has more.
func (l League) canFirst(team int) bool {
	_, ruledOut := l.chaseOf(team).reason()
	return !ruledOut
}

// surely tells whether no other team can reach more than the team has already.
func (c chase) surely() bool {
	most := 0
	for _, other := range c.others() {
		most = greatest(most, c.reach(other))
	}
	return c.points[c.team] >= most
}

// shows returns outcomes by which the team is first, which it can be: each of the first kind by which it still can.
func (l League) shows(team int) []uint8 {
	var outcomes []uint8
	l.Games = slices.Clone(l.Games)
	for i, g := range l.Games {
		if !g.Open {
			continue
		}
		for outcome := WonA; outcome <= WonB; outcome++ {
			l.Games[i] = g.ended(outcome)
			if l.canFirst(team) {
				outcomes = append(outcomes, outcome)
				break
			}
		}
	}
	return outcomes
}

// open counts all open games.
func (l League) open() int {
	n := 0
	for _, g := range l.Games {
		if g.Open {
			n++
		}
	}
	return n
}

// after is the league with its open games ended by the outcomes.
func (l League) after(outcomes []uint8) League {
	l.Games = slices.Clone(l.Games)
	next := 0
	for i, g := range l.Games {
		if g.Open {
			l.Games[i] = g.ended(outcomes[next])
			next++
		}
	}
	return l
}

// ended is the open game, played with some pins that give its points as the outcome does.
func (g Game) ended(outcome uint8) Game {
	g.Open = false
	switch outcome {
	case WonA:
		g.PinsA = 1
	case WonB:
		g.PinsB = 1
	}
	return g
}
