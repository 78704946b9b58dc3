package ladder_test

import (
	"math/rand"
	"slices"
	"testing"

	"kingpin/api"
	"kingpin/ladder"
)

// The slow model: by the words of the chapter, and nothing of the package but its types.

// plainOrder is the order of the places, written out.
func plainOrder(players int) []int {
	switch {
	case players > 8:
		return list(0, 15, 7, 8, 3, 12, 4, 11, 1, 14, 6, 9, 2, 13, 5, 10)
	case players > 4:
		return list(0, 7, 3, 4, 1, 6, 2, 5)
	case players > 2:
		return list(0, 3, 1, 2)
	}
	return list(0, 1)
}

// plainTree is the tree of a valid knock-out. A side that is not is nil.
func plainTree(c ladder.Cup) []ladder.Pair {
	var tree []ladder.Pair
	if c.Form == ladder.Ladder {
		for n := range c.Players - 1 {
			p := ladder.Pair{First: seed(c.Players - 2 - n), Second: from(n - 1)}
			if n == 0 {
				p.Second = seed(c.Players - 1)
			}
			tree = append(tree, p)
		}
		return tree
	}
	var round []*ladder.Side
	for _, s := range plainOrder(c.Players) {
		var side *ladder.Side
		if s < c.Players {
			side = &ladder.Side{Player: s, Match: ladder.None}
		}
		round = append(round, side)
	}
	for len(round) > 1 {
		var out []*ladder.Side
		for i := 0; i < len(round); i += 2 {
			first, second := round[i], round[i+1]
			switch {
			case first == nil:
				out = append(out, second)
			case second == nil:
				out = append(out, first)
			default:
				out = append(out, &ladder.Side{Player: ladder.None, Match: len(tree)})
				tree = append(tree, ladder.Pair{First: *first, Second: *second})
			}
		}
		round = out
	}
	return tree
}

// plainDecided is who of the players has won more than half, or None.
func plainDecided(c ladder.Cup, games []int, players [2]int) int {
	for _, player := range players {
		if n := countOf(games, player); player != ladder.None && n > c.Games-n {
			return player
		}
	}
	return ladder.None
}

func countOf(games []int, player int) int {
	n := 0
	for _, game := range games {
		if game == player {
			n++
		}
	}
	return n
}

// plain is what the results tell of each match: its players, its winner, and its result, if it has one.
type plain struct {
	ladder.Cup
	tree    []ladder.Pair
	players [][2]int
	winners []int
	results []*ladder.Result
}

func plainOf(c ladder.Cup) plain {
	p := plain{Cup: c, tree: plainTree(c)}
	for n, pair := range p.tree {
		players, winner := playersOf(pair, p.winners), ladder.None
		var result *ladder.Result
		for _, r := range c.Results {
			if r.Match == n {
				result = &r
				winner = plainDecided(c, r.Games, players)
			}
		}
		p.players, p.winners, p.results = append(p.players, players), append(p.winners, winner), append(p.results, result)
	}
	return p
}

func playersOf(pair ladder.Pair, winners []int) [2]int {
	var players [2]int
	for i, side := range []ladder.Side{pair.First, pair.Second} {
		if side.Match == ladder.None {
			players[i] = side.Player
		} else {
			players[i] = winners[side.Match]
		}
	}
	return players
}

// plainLawful asks for the players, for each game, and what was before the last one.
func (p plain) plainLawful(r ladder.Result) bool {
	players := p.players[r.Match]
	if players[0] == ladder.None || players[1] == ladder.None {
		return false
	}
	for _, game := range r.Games {
		if game != players[0] && game != players[1] {
			return false
		}
	}
	return plainDecided(p.Cup, r.Games[:len(r.Games)-1], players) == ladder.None
}

// plainCheck goes through the questions of the section Errors.
func plainCheck(c ladder.Cup) api.Errno {
	if len(c.Results) > 15 {
		return api.ErrLimit
	}
	for _, r := range c.Results {
		if len(r.Games) > 5 {
			return api.ErrLimit
		}
	}
	if c.Form > 1 || c.Players < 2 || c.Players > 16 || !slices.Contains(list(1, 3, 5), c.Games) {
		return api.ErrArg
	}
	for _, r := range c.Results {
		if r.Match < 0 || r.Match >= c.Players-1 || len(r.Games) == 0 {
			return api.ErrArg
		}
	}
	for i, r := range c.Results {
		for _, other := range c.Results[:i] {
			if r.Match == other.Match {
				return api.ErrTwice
			}
		}
	}
	p := plainOf(c)
	for _, r := range c.Results {
		if !p.plainLawful(r) {
			return api.ErrLaw
		}
	}
	return api.OK
}

// holds tells whether the match has a result, and it holds in the course.
func (p plain) holds(match int, winners []int) bool {
	return p.results[match] != nil && playersOf(p.tree[match], winners) == p.players[match]
}

// such tells whether the match has a result that holds, that decides it, and that is not protested.
func (p plain) such(match int, winners []int) bool {
	return p.holds(match, winners) && p.winners[match] != ladder.None && !p.results[match].Protested
}

func (p plain) possible(winners []int) bool {
	for match, winner := range winners {
		if p.such(match, winners) && winner != p.winners[match] {
			return false
		}
	}
	return true
}

func (p plain) upsets(winners []int) int {
	n := 0
	for match, winner := range winners {
		players := playersOf(p.tree[match], winners)
		other := players[0] + players[1] - winner
		if !p.such(match, winners) && winner > other {
			n++
		}
	}
	return n
}

// allCourses visits all courses, possible or not.
func allCourses(c ladder.Cup, visit func(winners []int)) {
	tree := plainTree(c)
	winners := make([]int, len(tree))
	var play func(match int)
	play = func(match int) {
		if match == len(tree) {
			visit(winners)
			return
		}
		for _, winner := range playersOf(tree[match], winners) {
			winners[match] = winner
			play(match + 1)
		}
	}
	play(0)
}

// plainCourses is by how few upsets each player may win, -1 for who may not, and what hangs.
func plainCourses(c ladder.Cup) (upsets, hangs []int) {
	p := plainOf(c)
	upsets = slices.Repeat(list(-1), c.Players)
	hanging := make([]bool, len(p.tree))
	allCourses(c, func(winners []int) {
		if !p.possible(winners) {
			return
		}
		last := winners[len(winners)-1]
		if n := p.upsets(winners); upsets[last] < 0 || n < upsets[last] {
			upsets[last] = n
		}
		for match, r := range p.results {
			if r != nil && !r.Protested && p.winners[match] != ladder.None && !p.holds(match, winners) {
				hanging[match] = true
			}
		}
	})
	for match, so := range hanging {
		if so {
			hangs = append(hangs, match)
		}
	}
	return upsets, hangs
}

// plainNext are the matches whose players are known, and that are not decided.
func plainNext(c ladder.Cup) []ladder.Match {
	p := plainOf(c)
	var next []ladder.Match
	for n, players := range p.players {
		if slices.Contains(players[:], ladder.None) || p.winners[n] != ladder.None {
			continue
		}
		var games []int
		if r := p.results[n]; r != nil {
			games = r.Games
		}
		next = append(next, open(n, players[0], players[1], countOf(games, players[0]), countOf(games, players[1])))
	}
	return next
}

// someGames are games of the two, that decide their match or not.
func someGames(r *rand.Rand, most int, players [2]int, decide bool) []int {
	var games []int
	for {
		games = append(games, players[r.Intn(2)])
		if 2*countOf(games, games[len(games)-1]) > most || !decide && r.Intn(3) == 0 {
			return games
		}
	}
}

// someCup is a lawful knock-out, with results in any order.
func someCup(r *rand.Rand, mostPlayers int) ladder.Cup {
	c := ladder.Cup{Form: uint8(r.Intn(2)), Players: 2 + r.Intn(mostPlayers-1), Games: 1 + 2*r.Intn(3)}
	played, protested := []float64{0, 0.3, 0.8, 0.95, 1}[r.Intn(5)], []float64{0, 0.2, 0.5}[r.Intn(3)]
	for n := range c.Players - 1 {
		players := plainOf(c).players[n]
		if slices.Contains(players[:], ladder.None) || r.Float64() >= played {
			continue
		}
		games := someGames(r, c.Games, players, r.Float64() < played)
		c.Results = append(c.Results, ladder.Result{Match: n, Games: games, Protested: r.Float64() < protested})
	}
	r.Shuffle(len(c.Results), func(i, j int) { c.Results[i], c.Results[j] = c.Results[j], c.Results[i] })
	return c
}

func someCups(seed int64, many, mostPlayers int, visit func(r *rand.Rand, c ladder.Cup)) {
	r := rand.New(rand.NewSource(seed))
	for range many {
		visit(r, someCup(r, mostPlayers))
	}
}

// smallCups visits all knock-outs of so many players and matches of one game, in which each match has no result, or one that any player has won, protested or not.
func smallCups(players int, visit func(c ladder.Cup)) {
	var add func(c ladder.Cup, match int)
	add = func(c ladder.Cup, match int) {
		if match == players-1 {
			visit(c)
			return
		}
		add(c, match+1)
		for player := range players {
			// The later ones first: a result is told before those that it needs.
			add(and(ladder.Cup{Form: c.Form, Players: players, Games: 1, Results: []ladder.Result{won(match, player)}}, c.Results...), match+1)
			add(and(ladder.Cup{Form: c.Form, Players: players, Games: 1, Results: []ladder.Result{doubted(match, player)}}, c.Results...), match+1)
		}
	}
	for _, form := range []uint8{ladder.Bracket, ladder.Ladder} {
		add(ladder.Cup{Form: form, Players: players, Games: 1}, 0)
	}
}

// The calls, where they must not have an error.

func mustTree(t *testing.T, c ladder.Cup) []ladder.Pair {
	t.Helper()
	tree, e := ladder.Tree(c)
	if e != api.OK {
		t.Fatalf("Tree of %v: %v", c, e)
	}
	return tree
}

func mustNext(t *testing.T, c ladder.Cup) []ladder.Match {
	t.Helper()
	next, e := ladder.Next(c)
	if checked := ladder.CheckCup(c); e != api.OK || checked != api.OK {
		t.Fatalf("Next, CheckCup of %v: %v, %v", c, e, checked)
	}
	return next
}

func mustMayWin(t *testing.T, c ladder.Cup) []int {
	t.Helper()
	players, e := ladder.MayWin(c)
	if e != api.OK {
		t.Fatalf("MayWin of %v: %v", c, e)
	}
	return players
}

func mustUpsets(t *testing.T, c ladder.Cup, player int) int {
	t.Helper()
	n, e := ladder.Upsets(c, player)
	if e != api.OK {
		t.Fatalf("Upsets of %d in %v: %v", player, c, e)
	}
	return n
}

// mustWay asks for a course by so many upsets, and whether it is one by the model.
func mustWay(t *testing.T, c ladder.Cup, player, upsets int) []int {
	t.Helper()
	way, e := ladder.Way(c, player)
	if e != api.OK || len(way) != c.Players-1 || way[len(way)-1] != player {
		t.Fatalf("Way of %d in %v: %v, %v", player, c, way, e)
	}
	p := plainOf(c)
	for n, winner := range way {
		if players := playersOf(p.tree[n], way); !slices.Contains(players[:], winner) {
			t.Fatalf("Way of %d in %v: %v", player, c, way)
		}
	}
	if !p.possible(way) || p.upsets(way) != upsets {
		t.Fatalf("Way of %d in %v: %v, by %d upsets, not %d", player, c, way, p.upsets(way), upsets)
	}
	return way
}

func mustHangs(t *testing.T, c ladder.Cup) []int {
	t.Helper()
	matches, e := ladder.Hangs(c)
	if e != api.OK {
		t.Fatalf("Hangs of %v: %v", c, e)
	}
	return matches
}

// wantPlain asks all calls of a valid knock-out, against the model.
func wantPlain(t *testing.T, c ladder.Cup) {
	t.Helper()
	if tree := mustTree(t, c); !slices.Equal(tree, plainTree(c)) {
		t.Fatalf("Tree of %v: %v", c, tree)
	}
	if next := mustNext(t, c); !slices.Equal(next, plainNext(c)) {
		t.Fatalf("Next of %v: %v", c, next)
	}
	upsets, hangs := plainCourses(c)
	wantCourses(t, c, upsets, hangs)
	may := mustMayWin(t, c)
	want, wantE := plainOf(c).winners[c.Players-2], api.OK
	if want == ladder.None {
		want, wantE = 0, api.ErrNone
	} else if len(may) > 1 {
		want, wantE = 0, api.ErrState
	}
	if w, e := ladder.Winner(c); w != want || e != wantE {
		t.Fatalf("Winner of %v: %d, %v, not %d, %v", c, w, e, want, wantE)
	}
}

// P9.1: against trees by the chapter's words.
func TestAllTrees(t *testing.T) {
	for players := 2; players <= 16; players++ {
		for _, games := range list(1, 3, 5) {
			for _, c := range []ladder.Cup{bracket(players, games), climb(players, games)} {
				if tree := mustTree(t, c); !slices.Equal(tree, plainTree(c)) {
					t.Errorf("Tree of %v: %v", c, tree)
				}
			}
		}
	}
}

// P9.1 to P9.5: all small knock-outs, lawful and not, against all courses by the chapter's words.
func TestSmallCups(t *testing.T) {
	var lawful [2]int
	for players := 2; players <= 4; players++ {
		smallCups(players, func(c ladder.Cup) {
			e := ladder.CheckCup(c)
			if e != plainCheck(c) {
				t.Fatalf("CheckCup of %v: %v", c, e)
			}
			if e == api.OK {
				wantPlain(t, c)
			}
			count(lawful[:], e == api.OK)
		})
	}
	wantMany(t, 100, lawful[:])
}

// P9.1 to P9.5: knock-outs by chance against all courses by the chapter's words.
func TestCoursesByChance(t *testing.T) {
	var forms, hanging, decided [2]int
	visit := func(_ *rand.Rand, c ladder.Cup) {
		wantPlain(t, c)
		count(forms[:], c.Form == ladder.Ladder)
		count(hanging[:], len(mustHangs(t, c)) > 0)
		count(decided[:], len(mustNext(t, c)) == 0)
	}
	someCups(1, 6000, 8, visit)
	someCups(2, 600, 12, visit)
	someCups(3, 60, 16, visit)
	for _, kinds := range [][2]int{forms, hanging, decided} {
		wantMany(t, 500, kinds[:])
	}
}

// P9.1: results that are changed, and those that are left out.
func TestLawfulByChance(t *testing.T) {
	kinds := map[api.Errno]int{}
	someCups(4, 30000, 16, func(r *rand.Rand, c ladder.Cup) {
		for range r.Intn(3) {
			if len(c.Results) == 0 {
				break
			}
			i := r.Intn(len(c.Results))
			result := &c.Results[i]
			switch kind := r.Intn(5); {
			case kind == 0:
				c.Results = slices.Delete(c.Results, i, i+1)
			case kind == 1:
				result.Match = r.Intn(c.Players+1) - 1
			case len(result.Games) == 0:
			case kind == 2:
				result.Games = append(result.Games, result.Games[r.Intn(len(result.Games))])
			case kind == 3:
				result.Games[r.Intn(len(result.Games))] = r.Intn(c.Players+2) - 1
			case kind == 4:
				result.Games = result.Games[1:]
			}
		}
		e := ladder.CheckCup(c)
		if want := plainCheck(c); e != want {
			t.Fatalf("CheckCup of %v: %v, not %v", c, e, want)
		}
		kinds[e]++
	})
	wantMany(t, 100, list(kinds[api.OK], kinds[api.ErrLimit], kinds[api.ErrArg], kinds[api.ErrTwice], kinds[api.ErrLaw]))
}

// P9.4: winners by chance, those of a course, and such as are almost.
func TestProveWayByChance(t *testing.T) {
	var courses, proved [2]int
	someCups(5, 15000, 16, func(r *rand.Rand, c ladder.Cup) {
		p := plainOf(c)
		var winners []int
		for n, pair := range p.tree {
			players := playersOf(pair, winners)
			winner := players[r.Intn(2)]
			// Mostly as the results have it, wherever they can.
			if slices.Contains(players[:], p.winners[n]) && r.Intn(4) > 0 {
				winner = p.winners[n]
			}
			winners = append(winners, winner)
		}
		if r.Intn(3) == 0 {
			winners[r.Intn(len(winners))] = r.Intn(c.Players+2) - 1
		}
		isCourse := true
		for n, pair := range p.tree {
			players := playersOf(pair, winners)
			isCourse = isCourse && slices.Contains(players[:], winners[n])
		}
		for upsets := -1; upsets <= c.Players; upsets++ {
			want := isCourse && p.possible(winners) && p.upsets(winners) <= upsets
			if ladder.ProveWay(c, winners, upsets) != want {
				t.Fatalf("ProveWay of %v, %v, %d: not %v", c, winners, upsets, want)
			}
			count(proved[:], want)
		}
		for _, other := range [][]int{winners[1:], append(slices.Clone(winners), winners[len(winners)-1])} {
			if ladder.ProveWay(c, other, 99) {
				t.Fatalf("ProveWay of %v, %v", c, other)
			}
		}
		count(courses[:], isCourse)
	})
	wantMany(t, 2000, courses[:])
	wantMany(t, 2000, proved[:])
}

// count counts what is not so first, then what is.
func count(kinds []int, is bool) {
	if is {
		kinds[1]++
	} else {
		kinds[0]++
	}
}

// wantMany tells if a test by chance has not met all kinds of cases.
func wantMany(t *testing.T, least int, kinds []int) {
	t.Helper()
	if slices.Min(kinds) < least {
		t.Errorf("too few of some kind: %v", kinds)
	}
}
