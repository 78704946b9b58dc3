package ladder_test

import (
	"math"
	"slices"
	"testing"

	"kingpin/api"
	"kingpin/ladder"
)

func list(x ...int) []int { return x }

// won is a result with the players that won its games.
func won(match int, games ...int) ladder.Result {
	return ladder.Result{Match: match, Games: games}
}

// doubted is such a result that is protested.
func doubted(match int, games ...int) ladder.Result {
	return ladder.Result{Match: match, Games: games, Protested: true}
}

func bracket(players, games int, results ...ladder.Result) ladder.Cup {
	return ladder.Cup{Form: ladder.Bracket, Players: players, Games: games, Results: results}
}

func climb(players, games int, results ...ladder.Result) ladder.Cup {
	return ladder.Cup{Form: ladder.Ladder, Players: players, Games: games, Results: results}
}

// and is the knock-out with more results, and its own memory.
func and(c ladder.Cup, results ...ladder.Result) ladder.Cup {
	c.Results = slices.Concat(c.Results, results)
	for i, r := range c.Results {
		c.Results[i].Games = slices.Clone(r.Games)
	}
	return c
}

// seed is the side of a player, and from that of the winner of a match.
func seed(player int) ladder.Side { return ladder.Side{Player: player, Match: ladder.None} }

func from(match int) ladder.Side { return ladder.Side{Player: ladder.None, Match: match} }

// pairs puts two sides each together.
func pairs(sides ...ladder.Side) []ladder.Pair {
	var tree []ladder.Pair
	for i := 0; i < len(sides); i += 2 {
		tree = append(tree, ladder.Pair{First: sides[i], Second: sides[i+1]})
	}
	return tree
}

func open(number, first, second, won, lost int) ladder.Match {
	return ladder.Match{Number: number, First: first, Second: second, Won: won, Lost: lost}
}

// The chapter's examples.
func TestExamples(t *testing.T) {
	played := bracket(5, 3, won(0, 4, 3, 4), won(2, 1))
	if l := mustNext(t, played); !slices.Equal(l, []ladder.Match{open(1, 0, 4, 0, 0), open(2, 1, 2, 1, 0)}) {
		t.Errorf("Next: %v", l)
	}
	if l := mustMayWin(t, played); !slices.Equal(l, list(0, 1, 2, 4)) {
		t.Errorf("MayWin: %v", l)
	}
	for _, player := range list(2, 4) {
		if n := mustUpsets(t, played, player); n != 2 {
			t.Errorf("Upsets of %d: %d", player, n)
		}
	}
	protested := bracket(5, 3, doubted(0, 4, 3, 4), won(1, 4, 4))
	if l := mustMayWin(t, protested); !slices.Equal(l, list(0, 1, 2, 3, 4)) {
		t.Errorf("MayWin: %v", l)
	}
	if l := mustHangs(t, protested); !slices.Equal(l, list(1)) {
		t.Errorf("Hangs: %v", l)
	}
	for _, x := range []struct {
		c    ladder.Cup
		want []ladder.Pair
	}{
		{climb(3, 1), pairs(seed(1), seed(2), seed(0), from(0))},
		{bracket(5, 3), pairs(seed(3), seed(4), seed(0), from(0), seed(1), seed(2), from(1), from(2))},
	} {
		if l := mustTree(t, x.c); !slices.Equal(l, x.want) {
			t.Errorf("Tree of %v: %v", x.c, l)
		}
	}
}

// P9.1: brackets by hand: of as many players as places, with byes, and with players who go on to one that is not.
func TestBrackets(t *testing.T) {
	for players, want := range map[int][]ladder.Pair{
		2: pairs(seed(0), seed(1)),
		3: pairs(seed(1), seed(2), seed(0), from(0)),
		4: pairs(seed(0), seed(3), seed(1), seed(2), from(0), from(1)),
		6: pairs(seed(3), seed(4), seed(2), seed(5), seed(0), from(0), seed(1), from(1), from(2), from(3)),
		7: pairs(seed(3), seed(4), seed(1), seed(6), seed(2), seed(5), seed(0), from(0), from(1), from(2), from(3), from(4)),
		8: pairs(seed(0), seed(7), seed(3), seed(4), seed(1), seed(6), seed(2), seed(5), from(0), from(1), from(2), from(3), from(4), from(5)),
		9: pairs(seed(7), seed(8), seed(0), from(0), seed(3), seed(4), seed(1), seed(6), seed(2), seed(5), from(1), from(2), from(3), from(4), from(5), from(6)),
		15: pairs(seed(7), seed(8), seed(3), seed(12), seed(4), seed(11), seed(1), seed(14), seed(6), seed(9), seed(2), seed(13), seed(5), seed(10),
			seed(0), from(0), from(1), from(2), from(3), from(4), from(5), from(6), from(7), from(8), from(9), from(10), from(11), from(12)),
		16: pairs(seed(0), seed(15), seed(7), seed(8), seed(3), seed(12), seed(4), seed(11), seed(1), seed(14), seed(6), seed(9), seed(2), seed(13), seed(5), seed(10),
			from(0), from(1), from(2), from(3), from(4), from(5), from(6), from(7), from(8), from(9), from(10), from(11), from(12), from(13)),
	} {
		if l := mustTree(t, bracket(players, 1)); !slices.Equal(l, want) {
			t.Errorf("Tree of a bracket of %d: %v", players, l)
		}
	}
}

// P9.1: ladders by hand.
func TestLadders(t *testing.T) {
	for players := 2; players <= 16; players++ {
		want := pairs(seed(players-2), seed(players-1))
		for n := 1; n < players-1; n++ {
			want = append(want, pairs(seed(players-2-n), from(n-1))...)
		}
		if l := mustTree(t, climb(players, 5)); !slices.Equal(l, want) {
			t.Errorf("Tree of a ladder of %d: %v", players, l)
		}
	}
	if l := mustTree(t, climb(5, 3)); !slices.Equal(l, pairs(seed(3), seed(4), seed(2), from(0), seed(1), from(1), seed(0), from(2))) {
		t.Errorf("Tree of a ladder of 5: %v", l)
	}
}

// P9.1: the tree asks nothing of the results.
func TestTreeOfAnyResults(t *testing.T) {
	bad := slices.Repeat([]ladder.Result{won(-5, 9, 9, 9, 9, 9, 9, 9)}, 20)
	for _, c := range []ladder.Cup{bracket(4, 1, bad...), climb(4, 1, won(0)), bracket(4, 1, won(0, 7), won(0, 7))} {
		if l := mustTree(t, c); !slices.Equal(l, plainTree(c)) {
			t.Errorf("Tree of %v: %v", c, l)
		}
	}
}

// P9.1: which results are lawful, in any order, and which are not.
func TestLawful(t *testing.T) {
	for _, x := range []struct {
		c    ladder.Cup
		want api.Errno
	}{
		{bracket(2, 1, won(0, 0)), api.OK}, {bracket(2, 1, won(0, 1)), api.OK}, {bracket(2, 1, won(0, 2)), api.ErrLaw}, {bracket(2, 1, won(0, -1)), api.ErrLaw},
		// A game behind the deciding one, won by the same or the other one.
		{bracket(2, 1, won(0, 1, 1)), api.ErrLaw}, {bracket(2, 1, won(0, 1, 0)), api.ErrLaw},
		{bracket(2, 3, won(0, 1, 1)), api.OK}, {bracket(2, 3, won(0, 1, 1, 1)), api.ErrLaw}, {bracket(2, 3, won(0, 1, 1, 0)), api.ErrLaw}, {bracket(2, 3, won(0, 1, 0, 1)), api.OK}, {bracket(2, 3, won(0, 1, 0, 0)), api.OK}, {bracket(2, 3, won(0, 1, 0, 0, 1)), api.ErrLaw}, {bracket(2, 3, doubted(0, 1, 1, 0)), api.ErrLaw},
		{climb(2, 5, won(0, 1, 0, 1, 0, 0)), api.OK}, {climb(2, 5, won(0, 1, 1, 1)), api.OK}, {climb(2, 5, won(0, 1, 1, 1, 0)), api.ErrLaw}, {climb(2, 5, won(0, 1, 0, 1, 1, 1)), api.ErrLaw}, {climb(2, 5, won(0, 1, 0, 1, 1)), api.OK},
		// Somebody else has won a game, the first one, the last one, or one behind the deciding one.
		{bracket(4, 3, won(0, 1, 0, 0)), api.ErrLaw}, {bracket(4, 3, won(0, 0, 3, 2)), api.ErrLaw}, {bracket(4, 3, won(0, 0, 1, 0)), api.ErrLaw}, {bracket(4, 3, won(0, 0, 0, 2)), api.ErrLaw}, {bracket(4, 3, won(0, 3, 9, 3)), api.ErrLaw},
		// The players are known only by another result that decides its match.
		{climb(3, 3, won(1, 0)), api.ErrLaw}, {climb(3, 3, won(1, 0), won(0, 2)), api.ErrLaw}, {climb(3, 3, won(1, 0), won(0, 2, 1)), api.ErrLaw}, {climb(3, 3, won(1, 0), won(0, 2, 1, 2)), api.OK}, {climb(3, 3, won(0, 2, 1, 2), won(1, 0)), api.OK}, {climb(3, 3, won(1, 0), doubted(0, 2, 2)), api.OK},
		{climb(3, 3, won(1, 1), won(0, 2, 2)), api.ErrLaw}, {climb(3, 3, won(1, 2), won(0, 2, 2)), api.OK}, {climb(3, 3, won(1, 1), won(0, 1, 1)), api.OK},
		{climb(3, 1, won(1, -1)), api.ErrLaw}, {climb(3, 1, won(1, -1), won(0, -1)), api.ErrLaw}, {bracket(4, 1, won(2, -1)), api.ErrLaw},
		{bracket(4, 1, won(2, 0), won(0, 0)), api.ErrLaw}, {bracket(4, 1, won(2, 1), won(0, 0)), api.ErrLaw}, {bracket(4, 1, won(2, 1), won(0, 0), won(1, 1)), api.OK}, {bracket(4, 1, won(2, 2), won(0, 0), won(1, 1)), api.ErrLaw},
		// In a bracket of 9 the match 1 needs but the match 0; the match 5 needs both 1 and 2.
		{bracket(9, 1, won(1, 8), won(0, 8)), api.OK}, {bracket(9, 1, won(5, 4), won(2, 4), won(1, 8), won(0, 8)), api.OK}, {bracket(9, 1, won(5, 8), won(1, 8), won(0, 8)), api.ErrLaw}, {bracket(9, 1, won(5, 4), won(2, 4), won(0, 8)), api.ErrLaw},
		{bracket(15, 1, won(7, 0), won(0, 8)), api.OK}, {bracket(15, 1, won(7, 7), won(0, 8)), api.ErrLaw},
		// A chain of which the first one is not lawful.
		{climb(4, 1, won(2, 0), won(1, 1), won(0, 3, 3)), api.ErrLaw}, {climb(4, 1, won(2, 0), won(1, 1), won(0, 1)), api.ErrLaw},
	} {
		if e := ladder.CheckCup(x.c); e != x.want || e != plainCheck(x.c) {
			t.Errorf("CheckCup of %v: %v, not %v", x.c, e, x.want)
		}
	}
}

// P9.2: by hand: matches are open until they are decided, whether protested or not; those whose players are not known are not told.
func TestNext(t *testing.T) {
	for _, x := range []struct {
		c    ladder.Cup
		want []ladder.Match
	}{
		{bracket(2, 5), []ladder.Match{open(0, 0, 1, 0, 0)}}, {bracket(2, 5, won(0, 1, 1, 0, 0)), []ladder.Match{open(0, 0, 1, 2, 2)}}, {bracket(2, 5, won(0, 1, 1, 0, 1)), nil}, {bracket(2, 5, doubted(0, 1, 1, 1)), nil}, {bracket(2, 5, doubted(0, 1, 1)), []ladder.Match{open(0, 0, 1, 0, 2)}},
		{climb(4, 3, won(0, 3)), []ladder.Match{open(0, 2, 3, 0, 1)}}, {climb(4, 3, won(0, 2, 2)), []ladder.Match{open(1, 1, 2, 0, 0)}}, {climb(4, 3, won(1, 2, 1), doubted(0, 2, 2)), []ladder.Match{open(1, 1, 2, 1, 1)}}, {climb(4, 3, won(1, 2, 1, 1), doubted(0, 2, 2)), []ladder.Match{open(2, 0, 1, 0, 0)}},
		{bracket(3, 1), []ladder.Match{open(0, 1, 2, 0, 0)}}, {bracket(3, 1, won(0, 2)), []ladder.Match{open(1, 0, 2, 0, 0)}},
		{bracket(9, 1, won(0, 8), won(3, 6)), []ladder.Match{open(1, 0, 8, 0, 0), open(2, 3, 4, 0, 0), open(4, 2, 5, 0, 0)}}, {bracket(9, 1, won(4, 5), won(3, 6)), []ladder.Match{open(0, 7, 8, 0, 0), open(2, 3, 4, 0, 0), open(6, 6, 5, 0, 0)}},
		{bracket(15, 1, won(0, 8), won(1, 12), won(2, 4), won(3, 1), won(4, 9), won(5, 13), won(6, 5)), []ladder.Match{open(7, 0, 8, 0, 0), open(8, 12, 4, 0, 0), open(9, 1, 9, 0, 0), open(10, 13, 5, 0, 0)}},
	} {
		if l := mustNext(t, x.c); !slices.Equal(l, x.want) {
			t.Errorf("Next of %v: %v", x.c, l)
		}
	}
}

// P9.2: who has won, unless a protest may take it away.
func TestWinner(t *testing.T) {
	for _, x := range []struct {
		c    ladder.Cup
		want int
		e    api.Errno
	}{
		{bracket(2, 1), 0, api.ErrNone}, {bracket(2, 1, won(0, 0)), 0, api.OK}, {bracket(2, 1, won(0, 1)), 1, api.OK}, {bracket(2, 1, doubted(0, 0)), 0, api.ErrState}, {bracket(2, 3, won(0, 1)), 0, api.ErrNone}, {bracket(2, 3, doubted(0, 1)), 0, api.ErrNone}, {bracket(2, 3, won(0, 1, 0, 1)), 1, api.OK},
		{climb(3, 1, won(0, 2), won(1, 0)), 0, api.OK}, {climb(3, 1, won(0, 2), doubted(1, 0)), 0, api.ErrState}, {climb(3, 1, doubted(0, 2), won(1, 0)), 0, api.ErrState}, {climb(3, 1, won(0, 1)), 0, api.ErrNone},
		{bracket(4, 1, won(2, 3), won(1, 2), won(0, 3)), 3, api.OK}, {bracket(4, 1, won(2, 3), doubted(1, 2), won(0, 3)), 0, api.ErrState}, {bracket(4, 1, doubted(0, 3), doubted(1, 2)), 0, api.ErrNone},
	} {
		if w, e := ladder.Winner(x.c); w != x.want || e != x.e {
			t.Errorf("Winner of %v: %d, %v", x.c, w, e)
		}
	}
}

// P9.3, P9.4 and P9.5: by hand: who may win, by how few upsets (-1: by none), and what hangs.
func TestCourses(t *testing.T) {
	for _, x := range []struct {
		c      ladder.Cup
		upsets []int
		hangs  []int
	}{
		{bracket(2, 1), list(0, 1), nil}, {bracket(2, 1, won(0, 1)), list(-1, 0), nil}, {bracket(2, 1, doubted(0, 1)), list(0, 1), nil}, {climb(2, 3, won(0, 1)), list(0, 1), nil},
		{bracket(3, 1), list(0, 1, 2), nil}, {bracket(5, 1), list(0, 1, 2, 2, 3), nil}, {bracket(8, 1), list(0, 1, 2, 2, 3, 3, 3, 3), nil},
		{climb(5, 1), list(0, 1, 2, 3, 4), nil}, {climb(16, 5), list(0, 1, 2, 3, 4, 5, 6, 7, 8, 9, 10, 11, 12, 13, 14, 15), nil},
		{bracket(16, 3), list(0, 1, 2, 2, 3, 3, 3, 3, 4, 4, 4, 4, 4, 4, 4, 4), nil}, {bracket(9, 3), list(0, 1, 2, 2, 3, 3, 3, 3, 4), nil}, {bracket(15, 3), list(0, 1, 2, 2, 3, 3, 3, 3, 4, 4, 4, 4, 4, 4, 4), nil},
		// A result that is not protested is no upset, whoever won; one that does not decide changes nothing.
		{climb(4, 1, won(0, 3)), list(0, 1, -1, 2), nil}, {climb(4, 1, won(0, 3), won(1, 3)), list(0, -1, -1, 1), nil}, {climb(4, 3, won(0, 3)), list(0, 1, 2, 3), nil},
		{bracket(4, 1, won(0, 3), won(1, 2)), list(-1, -1, 0, 1), nil},
		// If the protested result of the last match is upheld, it is an upset.
		{bracket(4, 1, won(0, 3), won(1, 2), doubted(2, 3)), list(-1, -1, 0, 1), nil},
		// 2 has lost a match that is protested: they may win what 3 has won since, and of 0 or of 1, as if nothing had been.
		{climb(4, 1, doubted(0, 3), won(1, 3), won(2, 3)), list(0, 1, 2, 1), list(1, 2)},
		{climb(4, 1, doubted(0, 3), won(1, 3)), list(0, 1, 2, 2), list(1)},
		// 1 has lost to 0, whomever they have passed to come there: that result holds, but not if 2 has come.
		{climb(4, 1, doubted(0, 3), won(1, 1), won(2, 0)), list(0, -1, 2, -1), list(1, 2)},
		// The result of the match 2 holds, if 1 has come there; if 3 has, they may win it.
		{climb(4, 1, won(0, 3), doubted(1, 1), won(2, 0)), list(0, -1, -1, 2), list(2)},
		// Of a protested result nothing hangs that is protested, or not decided, but later ones do.
		{climb(4, 1, doubted(0, 3), doubted(1, 3), won(2, 3)), list(0, 1, 2, 2), list(2)},
		{climb(4, 3, doubted(0, 3, 3), won(1, 3)), list(0, 1, 2, 3), nil},
		{bracket(5, 1, doubted(0, 4), won(1, 0), won(2, 1), won(3, 1)), list(-1, 0, -1, 2, -1), list(1, 3)},
		// 8 has come to the last match through a bye's match, and there lost: only the matches on their way hang.
		{bracket(9, 1, doubted(0, 8), won(1, 8), won(2, 3), won(5, 8), won(3, 1), won(4, 2), won(6, 1), won(7, 1)), list(0, 1, -1, 2, -1, -1, -1, 3, -1), list(1, 5, 7)},
		// A knock-out that is decided to the last match.
		{bracket(5, 1, won(3, 4), won(2, 2), won(1, 4), won(0, 4)), list(-1, -1, -1, -1, 0), nil},
	} {
		wantCourses(t, x.c, x.upsets, x.hangs)
	}
}

// wantCourses asks MayWin, Upsets, Way and Hangs: -1 is no upset's number, but a player who may not win.
func wantCourses(t *testing.T, c ladder.Cup, upsets, hangs []int) {
	t.Helper()
	var may []int
	for player, want := range upsets {
		if want >= 0 {
			may = append(may, player)
			if n := mustUpsets(t, c, player); n != want {
				t.Errorf("Upsets of %d in %v: %d, not %d", player, c, n, want)
			}
			mustWay(t, c, player, want)
			continue
		}
		n, e := ladder.Upsets(c, player)
		way, f := ladder.Way(c, player)
		if n != 0 || e != api.ErrFail || len(way) != 0 || f != api.ErrFail {
			t.Errorf("Upsets, Way of %d in %v: %d, %v; %v, %v", player, c, n, e, way, f)
		}
	}
	if l := mustMayWin(t, c); !slices.Equal(l, may) {
		t.Errorf("MayWin of %v: %v, not %v", c, l, may)
	}
	if l := mustHangs(t, c); !slices.Equal(l, hangs) {
		t.Errorf("Hangs of %v: %v, not %v", c, l, hangs)
	}
}

// P9.4: winners by hand that are those of a possible course, and such as are not.
func TestProveWay(t *testing.T) {
	protested := climb(4, 1, doubted(0, 3), won(1, 3), won(2, 3))
	for _, x := range []struct {
		c       ladder.Cup
		winners []int
		// The least number of upsets, or -1 for what is no possible course.
		upsets int
	}{
		{bracket(2, 1), list(0), 0}, {bracket(2, 1), list(1), 1}, {bracket(2, 1), list(2), -1}, {bracket(2, 1), list(-1), -1}, {bracket(2, 1), nil, -1}, {bracket(2, 1), list(0, 0), -1}, {bracket(2, 1), list(1, 1), -1},
		{bracket(4, 1), list(0, 2, 2), 2}, {bracket(4, 1), list(0, 2, 3), -1}, {bracket(4, 1), list(1, 2, 2), -1}, {bracket(4, 1), list(0, 0, 0), -1}, {bracket(4, 1), list(0, 2), -1}, {bracket(4, 1), list(0, 2, 2, 2), -1}, {bracket(4, 1), list(0, -1, -1), -1},
		{bracket(4, 1, won(0, 3)), list(3, 1, 3), 1}, {bracket(4, 1, won(0, 3)), list(0, 1, 0), -1}, {bracket(4, 1, doubted(0, 3)), list(3, 1, 3), 2}, {bracket(4, 1, doubted(0, 3)), list(0, 1, 0), 0}, {bracket(4, 3, won(0, 3)), list(0, 1, 0), 0}, {bracket(4, 3, won(0, 3)), list(3, 1, 1), 1},
		// What 3 has won holds where 3 has come, and nowhere else.
		{protested, list(3, 3, 3), 1}, {protested, list(3, 1, 1), -1}, {protested, list(3, 3, 0), -1}, {protested, list(2, 2, 2), 2}, {protested, list(2, 2, 0), 1}, {protested, list(2, 1, 0), 0}, {protested, list(2, 3, 3), -1}, {protested, list(2, 1, 3), -1},
		// A last match that was played by 0 and 3 holds again, if 3 has come there by another way.
		{climb(4, 1, won(0, 3), doubted(1, 3), won(2, 3)), list(3, 3, 3), 1}, {climb(4, 1, won(0, 3), doubted(1, 3), won(2, 3)), list(3, 1, 0), 0}, {climb(4, 1, won(0, 3), doubted(1, 3), won(2, 3)), list(3, 3, 0), -1}, {climb(4, 1, won(0, 3), doubted(1, 3), doubted(2, 3)), list(3, 3, 0), 1},
		{bracket(1, 1), nil, -1}, {bracket(4, 1, won(0)), list(0, 1, 0), -1}, {bracket(4, 1, won(0, 0), won(0, 0)), list(0, 1, 0), -1}, {bracket(4, 1, won(0, 1)), list(0, 1, 0), -1}, {bracket(4, 1, won(0, 0, 0, 0, 0, 0, 0)), list(0, 1, 0), -1},
	} {
		for _, upsets := range []int{math.MinInt, -1, 0, 1, 2, 3, math.MaxInt} {
			if want := x.upsets >= 0 && x.upsets <= upsets; ladder.ProveWay(x.c, x.winners, upsets) != want {
				t.Errorf("ProveWay of %v, %v, %d: not %v", x.c, x.winners, upsets, want)
			}
		}
	}
}

// The limits and constants that the document names.
func TestLimits(t *testing.T) {
	if api.MaxLadderPlayers != 16 || api.MaxLadderGames != 5 || ladder.Bracket != 0 || ladder.Ladder != 1 || ladder.None != -1 {
		t.Error("limits or constants")
	}
}
