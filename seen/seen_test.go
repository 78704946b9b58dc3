package seen_test

import (
	"math/rand"
	"slices"
	"testing"

	"kingpin/api"
	"kingpin/seen"
)

func place(frame, ball int) seen.Place { return seen.Place{Frame: frame, Ball: ball} }

func word(frame, ball, teller, least, most int) seen.Word {
	return seen.Word{Place: place(frame, ball), Teller: teller, Least: least, Most: most}
}

func lane(frames int, words ...seen.Word) seen.Lane { return seen.Lane{Frames: frames, Words: words} }

func to(low, high int) seen.Range { return seen.Range{Lo: low, Hi: high} }

// twoFrames is the lane of the chapter's examples.
func twoFrames() seen.Lane {
	return lane(2, word(0, 0, 0, 3, 3), word(0, 1, 0, 0, 2), word(0, 0, 1, 2, 4), word(1, 0, 1, 6, 6), word(1, 0, 2, 0, 1))
}

// quarrel is a lane on which each of the tellers says two things that cannot both be.
func quarrel(frames int, tellers ...int) seen.Lane {
	l := lane(frames)
	for _, teller := range tellers {
		l = with(l, word(0, 0, teller, 1, 1), word(0, 0, teller, 2, 2))
	}
	return l
}

// The chapter's section Examples, and the third one of the document.
func TestExamples(t *testing.T) {
	l := twoFrames()
	for _, x := range []struct {
		tellers []int
		want    bool
	}{{nil, false}, {[]int{1}, true}, {[]int{0}, false}} {
		if mustExplains(t, l, x.tellers) != x.want {
			t.Errorf("Explains of %v: not %v", x.tellers, x.want)
		}
	}
	want := told{[]seen.Range{to(3, 3), to(0, 2), to(0, 1), to(0, 1)}, to(17, 20), []seen.Place{place(0, 0)}, 9}
	if x := mustTold(t, l, []int{1}); !x.equal(want) {
		t.Errorf("without 1: %v, not %v", x, want)
	}
	if x := mustTold(t, l, []int{2}); x.many != 21 {
		t.Errorf("Many without 2: %d", x.many)
	}
	if list := mustLeast(t, l); !slices.Equal(list, []int{1}) || blameOf(t, l) != -1 {
		t.Errorf("Least, Blame: %v, %v", list, blameOf(t, l))
	}
	if x := mustTold(t, lane(1, word(0, 0, 0, 3, 3), word(0, 1, 1, 0, 2)), nil); x.many != 3 {
		t.Errorf("Many of the document's frame: %d", x.many)
	}
}

// P3.1: the ends of what a lane may be, and what lies just behind them.
func TestCheckLane(t *testing.T) {
	for _, x := range []struct {
		l    seen.Lane
		want api.Errno
	}{
		{lane(1), api.OK}, {lane(5), api.OK}, {lane(0), api.ErrArg}, {lane(6), api.ErrArg}, {lane(-1), api.ErrArg}, {seen.Lane{}, api.ErrArg},
		{lane(5, word(0, 0, 0, 0, 0)), api.OK}, {lane(5, word(4, 1, 3, 10, 10)), api.OK}, {lane(5, word(4, 1, 3, 0, 10)), api.OK},
		{lane(5, word(5, 0, 0, 0, 0)), api.ErrArg}, {lane(5, word(-1, 0, 0, 0, 0)), api.ErrArg}, {lane(1, word(1, 0, 0, 0, 0)), api.ErrArg}, {lane(2, word(1, 0, 0, 0, 0)), api.OK},
		{lane(1, word(0, 2, 0, 0, 0)), api.ErrArg}, {lane(1, word(0, -1, 0, 0, 0)), api.ErrArg},
		{lane(1, word(0, 0, 4, 0, 0)), api.ErrArg}, {lane(1, word(0, 0, -1, 0, 0)), api.ErrArg},
		{lane(1, word(0, 0, 0, -1, 0)), api.ErrArg}, {lane(1, word(0, 0, 0, -1, -1)), api.ErrArg}, {lane(1, word(0, 0, 0, 0, 11)), api.ErrArg}, {lane(1, word(0, 0, 0, 11, 11)), api.ErrArg}, {lane(1, word(0, 0, 0, 5, 4)), api.ErrArg}, {lane(1, word(0, 0, 0, 0, -1)), api.ErrArg},
		// The last word counts as well as the first one; a word that contradicts another one is no error.
		{lane(1, word(0, 0, 0, 0, 0), word(0, 0, 0, 0, 0), word(0, 0, 0, 5, 4)), api.ErrArg}, {quarrel(1, 0, 1, 2, 3), api.OK},
		{lane(1, slices.Repeat([]seen.Word{word(0, 0, 0, 0, 0)}, 30)...), api.OK}, {lane(1, slices.Repeat([]seen.Word{word(0, 0, 0, 0, 0)}, 31)...), api.ErrLimit},
	} {
		if e := seen.CheckLane(x.l); e != x.want {
			t.Errorf("CheckLane of %v: %v, not %v", x.l, e, x.want)
		}
	}
}

// P3.1: of lists of tellers without any, and with all; of tellers who say nothing.
func TestExplains(t *testing.T) {
	against := lane(1, word(0, 0, 0, 0, 3), word(0, 1, 1, 4, 9))
	for _, x := range []struct {
		l       seen.Lane
		tellers []int
		want    bool
	}{
		{lane(1), nil, true}, {lane(5), nil, true}, {lane(5), []int{0, 1, 2, 3}, true}, {lane(5), []int{2}, true},
		{quarrel(5, 3), nil, false}, {quarrel(5, 3), []int{3}, true}, {quarrel(5, 3), []int{0, 1, 2}, false}, {quarrel(5, 3), []int{0, 1, 2, 3}, true},
		{quarrel(1, 0, 1, 2, 3), []int{0, 1, 2, 3}, true}, {quarrel(1, 0, 1, 2, 3), []int{0, 1, 3}, false},
		// No more stand behind the second ball than behind the first one.
		{against, nil, false}, {against, []int{0}, true}, {against, []int{1}, true}, {against, []int{2, 3}, false},
		{lane(1, word(0, 0, 0, 0, 3), word(0, 1, 1, 3, 9)), nil, true},
		// Behind a first ball that fells all none stand, behind the second one either.
		{lane(1, word(0, 0, 0, 0, 0), word(0, 1, 0, 0, 0)), nil, true}, {lane(1, word(0, 0, 0, 0, 0), word(0, 1, 0, 1, 10)), nil, false},
		// Words of several tellers of one place, and of one teller: they fit if the ranges have a number in common.
		{lane(1, word(0, 0, 0, 1, 4), word(0, 0, 1, 4, 7), word(0, 0, 2, 2, 6)), nil, true}, {lane(1, word(0, 0, 0, 1, 4), word(0, 0, 1, 5, 7), word(0, 0, 2, 2, 6)), nil, false}, {lane(1, word(0, 0, 3, 1, 4), word(0, 0, 3, 5, 7)), nil, false}, {lane(1, word(0, 0, 3, 1, 4), word(0, 0, 3, 1, 4)), nil, true},
		// In the last frame, and in each other one.
		{lane(5, word(4, 0, 1, 3, 3), word(4, 0, 2, 4, 4)), nil, false}, {lane(5, word(2, 1, 1, 3, 3), word(2, 1, 2, 4, 4)), nil, false}, {lane(5, word(2, 1, 1, 3, 3), word(3, 1, 2, 4, 4)), nil, true}, {lane(5, word(2, 1, 1, 3, 3), word(2, 0, 2, 4, 4)), nil, true},
	} {
		if mustExplains(t, x.l, x.tellers) != x.want {
			t.Errorf("Explains of %v, %v: not %v", x.l, x.tellers, x.want)
		}
	}
}

// P3.2, P3.3: by hand.
func TestTold(t *testing.T) {
	all := to(0, 10)
	for _, x := range []struct {
		l       seen.Lane
		tellers []int
		want    told
	}{
		{lane(1), nil, told{[]seen.Range{all, all}, to(0, 10), nil, 66}},
		{lane(5), nil, told{slices.Repeat([]seen.Range{all}, 10), to(0, 50), nil, 1252332576}},
		{quarrel(1, 0, 1, 2, 3), []int{0, 1, 2, 3}, told{[]seen.Range{all, all}, to(0, 10), nil, 66}},
		// All fall by the first ball, or none falls by both.
		{lane(1, word(0, 0, 0, 0, 0)), nil, told{[]seen.Range{to(0, 0), to(0, 0)}, to(10, 10), []seen.Place{place(0, 0), place(0, 1)}, 1}},
		{lane(1, word(0, 1, 0, 10, 10)), nil, told{[]seen.Range{to(10, 10), to(10, 10)}, to(0, 0), []seen.Place{place(0, 0), place(0, 1)}, 1}},
		{lane(1, word(0, 1, 0, 0, 0)), nil, told{[]seen.Range{all, to(0, 0)}, to(10, 10), []seen.Place{place(0, 1)}, 11}},
		{lane(1, word(0, 0, 0, 10, 10)), nil, told{[]seen.Range{to(10, 10), all}, to(0, 10), []seen.Place{place(0, 0)}, 11}},
		// What is told of the one ball bounds the other one.
		{lane(1, word(0, 1, 0, 7, 8)), nil, told{[]seen.Range{to(7, 10), to(7, 8)}, to(2, 3), nil, 7}},
		{lane(1, word(0, 0, 0, 2, 5), word(0, 1, 1, 4, 9)), nil, told{[]seen.Range{to(4, 5), to(4, 5)}, to(5, 6), nil, 3}},
		{lane(1, word(0, 0, 0, 2, 5), word(0, 1, 1, 5, 9)), nil, told{[]seen.Range{to(5, 5), to(5, 5)}, to(5, 5), []seen.Place{place(0, 0), place(0, 1)}, 1}},
		{lane(1, word(0, 0, 0, 2, 5), word(0, 1, 1, 5, 9)), []int{0}, told{[]seen.Range{to(5, 10), to(5, 9)}, to(1, 5), nil, 20}},
		// Of one place by several, and by one twice.
		{lane(1, word(0, 0, 0, 1, 6), word(0, 0, 1, 4, 8), word(0, 0, 1, 4, 8), word(0, 0, 2, 0, 5)), nil, told{[]seen.Range{to(4, 5), to(0, 5)}, to(5, 10), nil, 11}},
		{lane(1, word(0, 0, 0, 1, 6), word(0, 0, 1, 4, 8), word(0, 0, 1, 4, 8), word(0, 0, 2, 0, 5)), []int{0, 2}, told{[]seen.Range{to(4, 8), to(0, 8)}, to(2, 10), nil, 35}},
		// Five frames, each with its own word.
		{lane(5, word(4, 1, 3, 2, 2), word(3, 0, 2, 0, 1), word(2, 1, 1, 9, 10), word(1, 0, 0, 0, 0), word(0, 0, 3, 5, 5), word(0, 1, 3, 5, 5)), nil,
			told{[]seen.Range{to(5, 5), to(5, 5), to(0, 0), to(0, 0), to(9, 10), to(9, 10), to(0, 1), to(0, 1), to(2, 10), to(2, 2)}, to(32, 34), []seen.Place{place(0, 0), place(0, 1), place(1, 0), place(1, 1), place(4, 1)}, 81}},
	} {
		if y := mustTold(t, x.l, x.tellers); !y.equal(x.want) {
			t.Errorf("%v without %v: %v, not %v", x.l, x.tellers, y, x.want)
		}
	}
}

// P3.1, P3.2, P3.3: what is told of a lane is what all its games tell.
func TestGames(t *testing.T) {
	checked := 0
	check := func(l seen.Lane, tellers []int) {
		is := mustExplains(t, l, tellers)
		if is != plainExplains(l, tellers) {
			t.Fatalf("Explains of %v, %v: %v", l, tellers, is)
		}
		if !is {
			return
		}
		checked++
		if x, y := mustTold(t, l, tellers), plainTold(l, tellers); !x.equal(y) {
			t.Fatalf("%v without %v: %v, not %v", l, tellers, x, y)
		}
	}
	someNights(1, 150, 2, func(r *rand.Rand, x night) {
		check(x.Lane, nil)
		check(x.Lane, x.liars)
		check(x.Lane, teams()[r.Intn(16)])
	})
	r := rand.New(rand.NewSource(2))
	for range 150 {
		x := someNight(r, 3+r.Intn(3), 18)
		for frame := range x.Frames {
			x.Lane = with(x.Lane, word(frame, 0, 3, 0, 4), word(frame, 1, 3, 0, 1))
		}
		if len(x.Words) <= 30 {
			check(x.Lane, []int{0, 1, 2})
			check(x.Lane, others([]int{3, r.Intn(3)}))
		}
	}
	if checked < 300 {
		t.Errorf("only %d lanes looked at", checked)
	}
}

// P3.4: by hand, also where several lists are of the fewest.
func TestLeast(t *testing.T) {
	three := lane(1, word(0, 0, 0, 1, 1), word(0, 0, 1, 2, 2), word(0, 0, 2, 3, 3))
	for _, x := range []struct {
		l     seen.Lane
		least []int
		blame int
	}{
		{lane(1), nil, -1}, {lane(5), nil, -1}, {lane(5, word(4, 1, 3, 0, 10)), nil, -1}, {lane(1, word(0, 0, 2, 4, 4), word(0, 0, 2, 4, 4), word(0, 0, 1, 4, 4)), nil, -1},
		{quarrel(1, 0), []int{0}, 0}, {quarrel(1, 3), []int{3}, 3}, {quarrel(5, 1, 3), []int{1, 3}, -1}, {quarrel(5, 0, 2, 3), []int{0, 2, 3}, -1}, {quarrel(1, 0, 1, 2, 3), []int{0, 1, 2, 3}, -1},
		// Two against each other: either explains; the lesser one is the least list, and nobody is alone to blame.
		{lane(1, word(0, 0, 2, 1, 1), word(0, 0, 3, 2, 2)), []int{2}, -1}, {lane(1, word(0, 0, 1, 3, 3), word(0, 1, 0, 4, 4)), []int{0}, -1}, {lane(1, word(0, 0, 3, 0, 0), word(0, 1, 0, 1, 1)), []int{0}, -1},
		// One against two, in any order.
		{lane(1, word(0, 0, 1, 1, 1), word(0, 0, 2, 2, 2), word(0, 0, 3, 2, 3)), []int{1}, 1}, {lane(1, word(0, 0, 3, 1, 1), word(0, 0, 2, 2, 2), word(0, 0, 0, 2, 3)), []int{3}, 3}, {lane(1, word(0, 0, 3, 2, 2), word(0, 0, 2, 2, 2), word(0, 0, 0, 1, 1)), []int{0}, 0},
		// Three say three things: any two of them explain, and 0, 1 are the least list. With a word more, by the teller 3, 0 has to be one of them.
		{three, []int{0, 1}, -1}, {with(three, word(0, 1, 3, 3, 3)), []int{0, 1}, -1}, {with(three, word(0, 1, 3, 2, 3)), []int{0, 1}, -1}, {with(three, word(0, 0, 3, 2, 2)), []int{0, 2}, -1}, {with(three, word(0, 0, 3, 1, 1)), []int{1, 2}, -1}, {with(three, word(0, 0, 3, 4, 4)), []int{0, 1, 2}, -1},
		// In one frame the tellers 0 and 2 contradict each other, in another one 1 and 2: 2 alone explains both.
		{lane(5, word(0, 0, 0, 1, 1), word(0, 0, 2, 2, 2), word(4, 1, 1, 3, 3), word(4, 1, 2, 4, 4)), []int{2}, 2},
		// In one frame 0 and 1, in another one 2 and 3: four lists of two, of which 0, 2 is the least one.
		{lane(3, word(0, 0, 0, 1, 1), word(0, 0, 1, 2, 2), word(2, 1, 2, 3, 3), word(2, 1, 3, 4, 4)), []int{0, 2}, -1},
		// A longer list with lesser numbers explains, too; but 3 alone are fewer.
		{lane(2, word(0, 0, 0, 1, 1), word(0, 0, 3, 2, 2), word(1, 0, 1, 3, 3), word(1, 0, 3, 4, 4), word(1, 1, 2, 0, 3)), []int{3}, 3},
	} {
		if list := mustLeast(t, x.l); !slices.Equal(list, x.least) {
			t.Errorf("Least of %v: %v, not %v", x.l, list, x.least)
		}
		if blamed := blameOf(t, x.l); blamed != x.blame {
			t.Errorf("Blame of %v: %v, not %v", x.l, blamed, x.blame)
		}
	}
}

// P3.4: against the definition, list by list.
func TestLeastOfAll(t *testing.T) {
	var sizes [5]int
	blamed := 0
	check := func(l seen.Lane) {
		list := mustLeast(t, l)
		if want := plainLeast(l); !slices.Equal(list, want) {
			t.Fatalf("Least of %v: %v, not %v", l, list, want)
		}
		teller := blameOf(t, l)
		if want := plainBlame(l); teller != want {
			t.Fatalf("Blame of %v: %v, not %v", l, teller, want)
		}
		sizes[len(list)]++
		if teller >= 0 {
			blamed++
		}
	}
	someNights(3, 250, 2, func(_ *rand.Rand, x night) { check(x.Lane) })
	// Where each says much of the same places there are long lists, too.
	r := rand.New(rand.NewSource(4))
	for i := range 250 {
		l := lane(1)
		for range 1 + i%16 {
			l = with(l, anyWord(r, 1, r.Intn(4)))
		}
		check(l)
	}
	if slices.Min(sizes[:]) < 3 || blamed < 30 {
		t.Errorf("too few lists of some length: %v, %d alone to blame", sizes, blamed)
	}
}

// P3.5: by hand.
func TestProveGame(t *testing.T) {
	l := twoFrames()
	for _, x := range []struct {
		l       seen.Lane
		tellers []int
		game    [][]int
		want    bool
	}{
		{l, []int{1}, [][]int{{7, 1}, {10}}, true}, {l, []int{1}, [][]int{{7, 3}, {9, 0}}, true}, {l, []int{2}, [][]int{{7, 2}, {4, 6}}, true}, {l, []int{1, 2}, [][]int{{7, 2}, {0, 0}}, true}, {l, []int{0, 1, 2, 3}, [][]int{{0, 0}, {1, 9}}, true},
		// Each breaks a word, of the one frame or of the other, or fits none with nobody left out.
		{l, []int{1}, [][]int{{7, 0}, {10}}, false}, {l, []int{1}, [][]int{{6, 4}, {10}}, false}, {l, []int{1}, [][]int{{7, 1}, {8, 2}}, false}, {l, []int{2}, [][]int{{7, 2}, {10}}, false}, {l, nil, [][]int{{7, 1}, {10}}, false}, {l, []int{0}, [][]int{{7, 1}, {10}}, false}, {l, []int{3}, [][]int{{7, 1}, {4, 0}}, false},
		// What is no game of the lane.
		{l, []int{1}, [][]int{{7, 1}}, false}, {l, []int{1}, [][]int{{7, 1}, {10}, {10}}, false}, {l, []int{1}, nil, false}, {lane(2), nil, [][]int{nil, nil}, false},
		{lane(1), nil, [][]int{nil}, false}, {lane(1), nil, [][]int{{}}, false}, {lane(1), nil, [][]int{{9}}, false}, {lane(1), nil, [][]int{{0}}, false}, {lane(1), nil, [][]int{{10, 0}}, false}, {lane(1), nil, [][]int{{11}}, false}, {lane(1), nil, [][]int{{-1}}, false}, {lane(1), nil, [][]int{{9, 2}}, false}, {lane(1), nil, [][]int{{9, -1}}, false}, {lane(1), nil, [][]int{{-1, 3}}, false}, {lane(1), nil, [][]int{{11, -1}}, false}, {lane(1), nil, [][]int{{3, 3, 3}}, false}, {lane(1), nil, [][]int{{10, 0, 0}}, false},
		{lane(1), nil, [][]int{{10}}, true}, {lane(1), nil, [][]int{{0, 10}}, true}, {lane(1), nil, [][]int{{0, 0}}, true}, {lane(1), nil, [][]int{{9, 1}}, true}, {lane(5), nil, [][]int{{10}, {10}, {10}, {10}, {10}}, true},
		{lane(1, word(0, 1, 0, 0, 0)), nil, [][]int{{10}}, true}, {lane(1, word(0, 1, 0, 1, 1)), nil, [][]int{{10}}, false}, {lane(1, word(0, 0, 0, 0, 0)), nil, [][]int{{10}}, true}, {lane(1, word(0, 0, 0, 10, 10)), nil, [][]int{{0, 10}}, true},
		// Lane and tellers that are not as described.
		{lane(0), nil, nil, false}, {lane(6), nil, [][]int{{10}, {10}, {10}, {10}, {10}, {10}}, false}, {lane(1, word(0, 0, 0, 1, 0)), []int{0}, [][]int{{10}}, false}, {lane(1, make([]seen.Word, 31)...), nil, [][]int{{10}}, false}, {lane(1, make([]seen.Word, 30)...), nil, [][]int{{10}}, true},
		{lane(1), []int{4}, [][]int{{10}}, false}, {lane(1), []int{-1}, [][]int{{10}}, false}, {lane(1), []int{1, 1}, [][]int{{10}}, false}, {lane(1), []int{2, 1}, [][]int{{10}}, false},
	} {
		if seen.ProveGame(x.l, x.tellers, x.game) != x.want {
			t.Errorf("ProveGame of %v, without %v: %v: not %v", x.l, x.tellers, x.game, x.want)
		}
	}
}

// P3.5, P3.3: the games of a lane are just those that ProveGame takes.
func TestProveEach(t *testing.T) {
	someNights(5, 60, 2, func(r *rand.Rand, x night) {
		tellers := teams()[r.Intn(16)]
		fits := map[[4]int]bool{}
		for game := range plainGames(x.Lane, tellers) {
			fits[key(game)] = true
		}
		proven := 0
		for game := range plainGames(lane(x.Frames), nil) {
			is := seen.ProveGame(x.Lane, tellers, game)
			if is != fits[key(game)] {
				t.Fatalf("ProveGame of %v, without %v: %v: %v", x.Lane, tellers, game, is)
			}
			if is {
				proven++
			}
		}
		if many, e := seen.Many(x.Lane, tellers); many != proven || (e == api.OK) != (proven > 0) {
			t.Fatalf("Many of %v without %v: %v, %v, but %d are proven", x.Lane, tellers, many, e, proven)
		}
	})
}

func key(game [][]int) (k [4]int) {
	for frame := range game {
		k[2*frame], k[2*frame+1] = stoodBehind(game, place(frame, 0)), stoodBehind(game, place(frame, 1))
	}
	return k
}
