package seen_test

import (
	"iter"
	"math/rand"
	"slices"
	"testing"

	"kingpin/api"
	"kingpin/seen"
)

// The slow model: game by game, by the words of the chapter and nothing of the package.

// frameGames are all balls that a frame can have.
func frameGames() [][]int {
	var list [][]int
	for first := 0; first < 10; first++ {
		for second := 0; first+second <= 10; second++ {
			list = append(list, []int{first, second})
		}
	}
	return append(list, []int{10})
}

// stoodBehind counts the pins behind a place in a game that has got as far.
func stoodBehind(game [][]int, at seen.Place) int {
	pins := 10
	for number, fell := range game[at.Frame] {
		if number <= at.Ball {
			pins -= fell
		}
	}
	return pins
}

func countOf(game [][]int) int {
	count := 0
	for _, balls := range game {
		for _, fell := range balls {
			count += fell
		}
	}
	return count
}

func trueOf(w seen.Word, game [][]int) bool {
	n := stoodBehind(game, w.Place)
	return w.Least <= n && n <= w.Most
}

// plainGames yields all games of the lane that fit the words of all but these tellers.
func plainGames(l seen.Lane, tellers []int) iter.Seq[[][]int] {
	return func(yield func([][]int) bool) {
		var goOn func(game [][]int) bool
		goOn = func(game [][]int) bool {
			if len(game) == l.Frames {
				return yield(game)
			}
			for _, balls := range frameGames() {
				next := append(slices.Clone(game), balls)
				against := func(w seen.Word) bool {
					return w.Frame == len(game) && !slices.Contains(tellers, w.Teller) && !trueOf(w, next)
				}
				if !slices.ContainsFunc(l.Words, against) && !goOn(next) {
					return false
				}
			}
			return true
		}
		goOn(nil)
	}
}

func plainExplains(l seen.Lane, tellers []int) bool {
	for range plainGames(l, tellers) {
		return true
	}
	return false
}

// told is what the package tells of a lane without some tellers.
type told struct {
	places []seen.Range
	count  seen.Range
	sure   []seen.Place
	many   int
}

func placesOf(l seen.Lane) []seen.Place {
	var list []seen.Place
	for frame := range l.Frames {
		list = append(list, place(frame, 0), place(frame, 1))
	}
	return list
}

func plainTold(l seen.Lane, tellers []int) told {
	x := told{count: to(1000, -1)}
	for range placesOf(l) {
		x.places = append(x.places, to(1000, -1))
	}
	for game := range plainGames(l, tellers) {
		x.many++
		widen(&x.count, countOf(game))
		for i, at := range placesOf(l) {
			widen(&x.places[i], stoodBehind(game, at))
		}
	}
	for i, at := range placesOf(l) {
		if x.places[i].Lo == x.places[i].Hi {
			x.sure = append(x.sure, at)
		}
	}
	return x
}

func widen(r *seen.Range, n int) { r.Lo, r.Hi = min(r.Lo, n), max(r.Hi, n) }

// teams are all lists of tellers, shorter ones first, then by the first number that differs.
func teams() [][]int {
	return [][]int{
		nil, {0}, {1}, {2}, {3}, {0, 1}, {0, 2}, {0, 3}, {1, 2}, {1, 3}, {2, 3},
		{0, 1, 2}, {0, 1, 3}, {0, 2, 3}, {1, 2, 3}, {0, 1, 2, 3},
	}
}

func plainLeast(l seen.Lane) []int {
	for _, tellers := range teams() {
		if plainExplains(l, tellers) {
			return tellers
		}
	}
	return nil
}

// plainBlame returns -1 if nobody is alone to blame.
func plainBlame(l seen.Lane) int {
	blamed := -1
	for teller := range 4 {
		if plainExplains(l, []int{teller}) {
			if blamed >= 0 {
				return -1
			}
			blamed = teller
		}
	}
	if plainExplains(l, nil) {
		return -1
	}
	return blamed
}

// someGame is a game by chance, strikes not seldom.
func someGame(r *rand.Rand, frames int) [][]int {
	var game [][]int
	list := frameGames()
	for range frames {
		balls := list[r.Intn(len(list))]
		if r.Intn(6) == 0 {
			balls = []int{10}
		}
		game = append(game, slices.Clone(balls))
	}
	return game
}

func somePlace(r *rand.Rand, frames int) seen.Place { return place(r.Intn(frames), r.Intn(2)) }

// trueWord is a word that is so in the game.
func trueWord(r *rand.Rand, game [][]int, teller int) seen.Word {
	at := somePlace(r, len(game))
	n := stoodBehind(game, at)
	return seen.Word{Place: at, Teller: teller, Least: max(0, n-r.Intn(4)), Most: min(10, n+r.Intn(4))}
}

// anyWord is a word that may be so or not.
func anyWord(r *rand.Rand, frames, teller int) seen.Word {
	least := r.Intn(11)
	return seen.Word{Place: somePlace(r, frames), Teller: teller, Least: least, Most: least + r.Intn(11-least)}
}

// night is a game, and what is told of it: all is true but for what the liars say.
type night struct {
	seen.Lane
	game  [][]int
	liars []int
}

func someNight(r *rand.Rand, frames, words int) night {
	x := night{seen.Lane{Frames: frames}, someGame(r, frames), teams()[r.Intn(16)]}
	for range words {
		teller := r.Intn(4)
		w := trueWord(r, x.game, teller)
		if slices.Contains(x.liars, teller) {
			w = anyWord(r, frames, teller)
		}
		x.Words = append(x.Words, w)
		if r.Intn(8) == 0 {
			x.Words = append(x.Words, w)
		}
	}
	return x
}

// someNights visits nights by chance, of few words and of many.
func someNights(seed int64, times, frames int, visit func(r *rand.Rand, x night)) {
	r := rand.New(rand.NewSource(seed))
	for range times {
		visit(r, someNight(r, 1+r.Intn(frames), r.Intn(13)))
	}
}

// others are the tellers that are not in the list.
func others(tellers []int) []int {
	return slices.DeleteFunc([]int{0, 1, 2, 3}, func(teller int) bool { return slices.Contains(tellers, teller) })
}

// with is the lane with words more.
func with(l seen.Lane, words ...seen.Word) seen.Lane {
	l.Words = append(slices.Clone(l.Words), words...)
	return l
}

func mustExplains(t *testing.T, l seen.Lane, tellers []int) bool {
	t.Helper()
	is, e := seen.Explains(l, tellers)
	if e != api.OK {
		t.Fatalf("Explains of %v, %v: %v", l, tellers, e)
	}
	return is
}

// mustTold asks Ranges, Sure and Many of tellers that explain the words.
func mustTold(t *testing.T, l seen.Lane, tellers []int) told {
	t.Helper()
	places, count, e1 := seen.Ranges(l, tellers)
	sure, e2 := seen.Sure(l, tellers)
	many, e3 := seen.Many(l, tellers)
	if e1 != api.OK || e2 != api.OK || e3 != api.OK {
		t.Fatalf("Ranges, Sure, Many of %v without %v: %v, %v, %v", l, tellers, e1, e2, e3)
	}
	return told{places, count, sure, many}
}

func mustLeast(t *testing.T, l seen.Lane) []int {
	t.Helper()
	list, e := seen.Least(l)
	if e != api.OK {
		t.Fatalf("Least of %v: %v", l, e)
	}
	return list
}

// blameOf returns -1 if nobody is alone to blame.
func blameOf(t *testing.T, l seen.Lane) int {
	t.Helper()
	teller, e := seen.Blame(l)
	if e == api.ErrNone && teller == 0 {
		return -1
	}
	if e != api.OK {
		t.Fatalf("Blame of %v: %v, %v", l, teller, e)
	}
	return teller
}

func (x told) equal(y told) bool {
	return slices.Equal(x.places, y.places) && x.count == y.count && slices.Equal(x.sure, y.sure) && x.many == y.many
}
