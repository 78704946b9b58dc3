package ladder_test

import (
	"math"
	"math/rand"
	"reflect"
	"slices"
	"testing"

	"kingpin/api"
	"kingpin/ladder"
)

// isDecided tells whether the match has a result that decides it.
func isDecided(c ladder.Cup, r ladder.Result) bool {
	for _, game := range r.Games {
		if 2*countOf(r.Games, game) > c.Games {
			return true
		}
	}
	return false
}

// decidedResults are those that decide their matches.
func decidedResults(c ladder.Cup) []ladder.Result {
	var decided []ladder.Result
	for _, r := range c.Results {
		if isDecided(c, r) {
			decided = append(decided, r)
		}
	}
	return decided
}

// loser is who has lost a match that is decided: who won its last game has won it.
func loser(t *testing.T, c ladder.Cup, r ladder.Result) int {
	t.Helper()
	players := plainOf(c).players[r.Match]
	return players[0] + players[1] - r.Games[len(r.Games)-1]
}

// unprotested is the knock-out with no result protested.
func unprotested(c ladder.Cup) ladder.Cup {
	c = and(c)
	for i := range c.Results {
		c.Results[i].Protested = false
	}
	return c
}

// isWithin tells whether all of the list are in the other one.
func isWithin(list, other []int) bool {
	for _, n := range list {
		if !slices.Contains(other, n) {
			return false
		}
	}
	return true
}

// P9.6: by all courses that ProveWay takes.
func TestWhateverIsDecided(t *testing.T) {
	var possible, firm [2]int
	someCups(11, 1500, 9, func(_ *rand.Rand, c ladder.Cup) {
		may, hangs := mustMayWin(t, c), mustHangs(t, c)
		least := map[int]int{}
		for _, player := range may {
			least[player] = mustUpsets(t, c, player)
		}
		met := map[int]bool{}
		allCourses(c, func(winners []int) {
			is := ladder.ProveWay(c, winners, math.MaxInt)
			count(possible[:], is)
			if !is {
				return
			}
			last := winners[len(winners)-1]
			met[last] = true
			if n, ok := least[last]; !ok || ladder.ProveWay(c, winners, n-1) {
				t.Fatalf("%d in %v: MayWin %v, Upsets %d, but %v", last, c, may, n, winners)
			}
			for _, r := range decidedResults(c) {
				isFirm := !r.Protested && !slices.Contains(hangs, r.Match)
				count(firm[:], isFirm)
				if isFirm && winners[r.Match] != r.Games[len(r.Games)-1] {
					t.Fatalf("Hangs of %v: %v, but %v", c, hangs, winners)
				}
			}
		})
		if len(met) != len(may) {
			t.Fatalf("MayWin of %v: %v, but %v", c, may, met)
		}
	})
	wantMany(t, 1000, possible[:])
	wantMany(t, 1000, firm[:])
}

// P9.7: all knock-outs without results.
func TestNothingPlayed(t *testing.T) {
	for players := 2; players <= 16; players++ {
		for _, games := range list(1, 3, 5) {
			for _, c := range []ladder.Cup{bracket(players, games), climb(players, games)} {
				may, hangs := mustMayWin(t, c), mustHangs(t, c)
				if len(may) != players || !slices.IsSorted(may) || may[0] != 0 || may[players-1] != players-1 || len(hangs) > 0 || mustUpsets(t, c, 0) != 0 {
					t.Errorf("MayWin, Hangs of %v: %v, %v", c, may, hangs)
				}
				if way := mustWay(t, c, 0, 0); !ladder.ProveWay(c, way, 0) {
					t.Errorf("Way of 0 in %v: %v", c, way)
				}
				if _, e := ladder.Winner(c); e != api.ErrNone {
					t.Errorf("Winner of %v: %v", c, e)
				}
			}
		}
	}
}

// oneMore is the knock-out with a game more of a match that Next tells.
func oneMore(c ladder.Cup, m ladder.Match, winner int) ladder.Cup {
	c = and(c)
	for i, r := range c.Results {
		if r.Match == m.Number {
			c.Results[i].Games = append(r.Games, winner)
			return c
		}
	}
	return and(c, won(m.Number, winner))
}

// P9.8: one result more, one game more, one protest more.
func TestOneMore(t *testing.T) {
	var games, fewer, protests [2]int
	someCups(12, 6000, 16, func(r *rand.Rand, c ladder.Cup) {
		may := mustMayWin(t, c)
		for _, m := range mustNext(t, c) {
			more := oneMore(c, m, []int{m.First, m.Second}[r.Intn(2)])
			left := mustMayWin(t, more)
			if !isWithin(left, may) {
				t.Fatalf("MayWin of %v: %v, of %v: %v", c, may, more, left)
			}
			count(games[:], len(more.Results) > len(c.Results))
			count(fewer[:], len(left) < len(may))
		}
		for i, result := range c.Results {
			if result.Protested {
				continue
			}
			more := and(c)
			more.Results[i].Protested = true
			left := mustMayWin(t, more)
			if !isWithin(may, left) {
				t.Fatalf("MayWin of %v: %v, of %v: %v", c, may, more, left)
			}
			count(protests[:], len(left) > len(may))
		}
	})
	for _, kinds := range [][2]int{games, fewer, protests} {
		wantMany(t, 500, kinds[:])
	}
}

// P9.9: without protests, all that have lost no match that is decided.
func TestWithoutProtests(t *testing.T) {
	var ended [2]int
	someCups(13, 6000, 16, func(_ *rand.Rand, c ladder.Cup) {
		c = unprotested(c)
		decided := decidedResults(c)
		out := make([]bool, c.Players)
		for _, r := range decided {
			out[loser(t, c, r)] = true
		}
		may := mustMayWin(t, c)
		if len(mustHangs(t, c)) > 0 || len(may) != c.Players-len(decided) {
			t.Fatalf("MayWin of %v: %v", c, may)
		}
		for player, isOut := range out {
			if slices.Contains(may, player) == isOut {
				t.Fatalf("MayWin of %v: %v", c, may)
			}
		}
		count(ended[:], len(may) == 1)
	})
	wantMany(t, 500, ended[:])
}

// P9.10 and P7: results in another order.
func TestAnyOrder(t *testing.T) {
	var changed [2]int
	someCups(14, 6000, 16, func(r *rand.Rand, c ladder.Cup) {
		other := and(c)
		r.Shuffle(len(other.Results), func(i, j int) { other.Results[i], other.Results[j] = other.Results[j], other.Results[i] })
		player := r.Intn(c.Players)
		x := asked{Cup: c, player: player}
		x.winners, _ = ladder.Way(c, player)
		x.upsets, _ = ladder.Upsets(c, player)
		y := x
		y.Cup = other
		first, second := x.calls(), y.calls()
		for call, a := range first {
			b := second[call]
			// Which way is told of several is not specified.
			if a.e != b.e || call != "Way" && !reflect.DeepEqual(a, b) {
				t.Fatalf("%s of %v: %v, of %v: %v", call, x, a, other, b)
			}
		}
		count(changed[:], len(c.Results) > 1 && c.Results[0].Match != other.Results[0].Match)
	})
	wantMany(t, 500, changed[:])
}

// P9.11: each player, and each match but the last one, is a side of just one match; the better seeds come to the last one.
func TestTree(t *testing.T) {
	for players := 2; players <= 16; players++ {
		for _, c := range []ladder.Cup{bracket(players, 3), climb(players, 3)} {
			tree := mustTree(t, c)
			sides := map[ladder.Side]int{}
			var better []int
			for n, p := range tree {
				sides[p.First]++
				sides[p.Second]++
				if p.First.Match >= n || p.Second.Match >= n {
					t.Errorf("Tree of %v: %v", c, tree)
				}
				met := playersOf(p, better)
				better = append(better, min(met[0], met[1]))
				if n == players-2 && met != [2]int{0, 1} {
					t.Errorf("the last match of %v is of %v", c, met)
				}
			}
			if len(tree) != players-1 || len(sides) != 2*players-2 {
				t.Errorf("Tree of %v: %v", c, tree)
			}
			for n := range players {
				if sides[seed(n)] != 1 || n < players-2 && sides[from(n)] != 1 {
					t.Errorf("Tree of %v: %v", c, tree)
				}
			}
			if c.Form == ladder.Ladder && tree[players-2].First != seed(0) {
				t.Errorf("Tree of %v: %v", c, tree)
			}
		}
	}
}

// P9.12: players and games by the results, and a game more for one of them.
func TestOn(t *testing.T) {
	var begun, decides [2]int
	someCups(15, 6000, 16, func(_ *rand.Rand, c ladder.Cup) {
		p := plainOf(c)
		next := mustNext(t, c)
		for i, m := range next {
			if i > 0 && next[i-1].Number >= m.Number {
				t.Fatalf("Next of %v: %v", c, next)
			}
			var games []int
			if r := p.results[m.Number]; r != nil {
				games = r.Games
			}
			if p.players[m.Number] != [2]int{m.First, m.Second} || m.Won != countOf(games, m.First) || m.Lost != countOf(games, m.Second) {
				t.Fatalf("Next of %v: %v", c, m)
			}
			for _, winner := range list(m.First, m.Second) {
				more := oneMore(c, m, winner)
				if e := ladder.CheckCup(more); e != api.OK {
					t.Fatalf("CheckCup of %v: %v", more, e)
				}
				open := slices.ContainsFunc(mustNext(t, more), func(other ladder.Match) bool { return other.Number == m.Number })
				count(decides[:], !open)
			}
			count(begun[:], len(games) > 0)
		}
	})
	wantMany(t, 500, begun[:])
	wantMany(t, 500, decides[:])
}

// playedOut is the knock-out with all open matches played until there is none.
func playedOut(t *testing.T, r *rand.Rand, c ladder.Cup) ladder.Cup {
	t.Helper()
	for {
		next := mustNext(t, c)
		if len(next) == 0 {
			return c
		}
		m := next[r.Intn(len(next))]
		c = oneMore(c, m, list(m.First, m.Second)[r.Intn(2)])
	}
}

// P9.13: knock-outs that are played to the end, with nothing protested.
func TestTheLastOne(t *testing.T) {
	var upset [2]int
	someCups(16, 3000, 16, func(r *rand.Rand, c ladder.Cup) {
		c = playedOut(t, r, unprotested(c))
		if len(c.Results) != c.Players-1 {
			t.Fatalf("Next of %v: nothing", c)
		}
		winners := make([]int, c.Players-1)
		for _, result := range c.Results {
			winners[result.Match] = result.Games[len(result.Games)-1]
		}
		last := winners[c.Players-2]
		if w, e := ladder.Winner(c); w != last || e != api.OK {
			t.Fatalf("Winner of %v: %d, %v", c, w, e)
		}
		if may := mustMayWin(t, c); !slices.Equal(may, list(last)) || mustUpsets(t, c, last) != 0 {
			t.Fatalf("MayWin of %v: %v", c, may)
		}
		if way := mustWay(t, c, last, 0); !slices.Equal(way, winners) || !ladder.ProveWay(c, winners, 0) {
			t.Fatalf("Way of %v: %v", c, way)
		}
		for n := range winners {
			other := slices.Clone(winners)
			other[n] = loser(t, c, c.Results[slices.IndexFunc(c.Results, func(r ladder.Result) bool { return r.Match == n })])
			if ladder.ProveWay(c, other, math.MaxInt) {
				t.Fatalf("ProveWay of %v, %v", c, other)
			}
		}
		count(upset[:], last > 0)
	})
	wantMany(t, 300, upset[:])
}
