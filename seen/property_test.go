package seen_test

import (
	"math/rand"
	"slices"
	"testing"

	"kingpin/api"
	"kingpin/seen"
)

func in(n int, r seen.Range) bool { return r.Lo <= n && n <= r.Hi }

// narrower tells whether no range of x is wider than that of y, nor fewer places sure, nor more games there.
func narrower(x, y told) bool {
	for i := range x.places {
		if !in(x.places[i].Lo, y.places[i]) || !in(x.places[i].Hi, y.places[i]) {
			return false
		}
	}
	lost := func(at seen.Place) bool { return !slices.Contains(x.sure, at) }
	return in(x.count.Lo, y.count) && in(x.count.Hi, y.count) && x.many <= y.many && !slices.ContainsFunc(y.sure, lost)
}

// P3.6: if the words of all but the liars are true of a game, the liars explain the words; what fell is in all ranges, and not fewer lie than the least list has.
func TestWhateverFell(t *testing.T) {
	someNights(11, 2000, 5, func(_ *rand.Rand, x night) {
		if !mustExplains(t, x.Lane, x.liars) || !seen.ProveGame(x.Lane, x.liars, x.game) {
			t.Fatalf("%v do not explain %v, or %v does not fit", x.liars, x.Lane, x.game)
		}
		y := mustTold(t, x.Lane, x.liars)
		for i, at := range placesOf(x.Lane) {
			stood := stoodBehind(x.game, at)
			if !in(stood, y.places[i]) {
				t.Fatalf("Ranges of %v without %v: %v, but behind %v stood %d", x.Lane, x.liars, y.places, at, stood)
			}
			if slices.Contains(y.sure, at) != (y.places[i] == to(stood, stood)) {
				t.Fatalf("Sure of %v without %v: %v, of the ranges %v", x.Lane, x.liars, y.sure, y.places)
			}
		}
		if n := countOf(x.game); !in(n, y.count) {
			t.Fatalf("Ranges of %v without %v: %v, but the count was %d", x.Lane, x.liars, y.count, n)
		}
		if list := mustLeast(t, x.Lane); len(list) > len(x.liars) {
			t.Fatalf("Least of %v: %v, but only %v lie", x.Lane, list, x.liars)
		}
	})
}

// P3.7: without words there are 66 games of each frame; with words the games of the frames alone, multiplied.
func TestAllGames(t *testing.T) {
	games := 1
	for frames := 1; frames <= 5; frames++ {
		games *= 66
		for _, tellers := range teams() {
			if x := mustTold(t, lane(frames), tellers); x.many != games || x.count != to(0, 10*frames) {
				t.Errorf("%d frames without %v: %v", frames, tellers, x)
			}
		}
	}
	someNights(12, 1500, 5, func(r *rand.Rand, x night) {
		tellers := teams()[r.Intn(16)]
		product := 1
		for frame := range x.Frames {
			alone := lane(1)
			for _, w := range x.Words {
				if w.Frame == frame {
					w.Frame = 0
					alone.Words = append(alone.Words, w)
				}
			}
			many, e := seen.Many(alone, tellers)
			if e != api.OK && e != api.ErrFail {
				t.Fatalf("Many of %v without %v: %v", alone, tellers, e)
			}
			product *= many
		}
		if many, _ := seen.Many(x.Lane, tellers); many != product {
			t.Fatalf("Many of %v without %v: %d, not %d", x.Lane, tellers, many, product)
		}
	})
}

// P3.8: with one word more nothing is wider; a word that says a range changes nothing.
func TestOneWordMore(t *testing.T) {
	less, unexplained := 0, 0
	someNights(13, 1500, 5, func(r *rand.Rand, x night) {
		y := mustTold(t, x.Lane, x.liars)
		more := with(x.Lane, anyWord(r, x.Frames, r.Intn(4)))
		if !mustExplains(t, more, x.liars) {
			unexplained++
		} else {
			z := mustTold(t, more, x.liars)
			if !narrower(z, y) {
				t.Fatalf("%v without %v: %v, but of %v: %v", x.Lane, x.liars, y, more, z)
			}
			if !z.equal(y) {
				less++
			}
		}
		for i, at := range placesOf(x.Lane) {
			w := seen.Word{Place: at, Teller: r.Intn(4), Least: y.places[i].Lo, Most: y.places[i].Hi}
			if z := mustTold(t, with(x.Lane, w), x.liars); !z.equal(y) {
				t.Fatalf("%v without %v: %v, but with %v: %v", x.Lane, x.liars, y, w, z)
			}
		}
	})
	if less < 100 || unexplained < 100 {
		t.Errorf("only %d are narrower, and %d explained no more", less, unexplained)
	}
}

// P3.9: with more tellers left out the words are explained all the more, and nothing is narrower.
func TestMoreTellers(t *testing.T) {
	someNights(14, 400, 3, func(_ *rand.Rand, x night) {
		for _, tellers := range teams() {
			if !mustExplains(t, x.Lane, tellers) {
				continue
			}
			y := mustTold(t, x.Lane, tellers)
			for _, other := range others(tellers) {
				more := append(slices.Clone(tellers), other)
				slices.Sort(more)
				if !mustExplains(t, x.Lane, more) {
					t.Fatalf("%v explain %v, but %v do not", tellers, x.Lane, more)
				}
				if z := mustTold(t, x.Lane, more); !narrower(y, z) {
					t.Fatalf("%v without %v: %v, but without %v: %v", x.Lane, tellers, y, more, z)
				}
			}
		}
	})
}

// P3.10: words in another order, and twice, tell the same.
func TestLateAndTwice(t *testing.T) {
	someNights(15, 600, 5, func(r *rand.Rand, x night) {
		y := x.Lane
		for _, w := range x.Words {
			if r.Intn(2) == 0 && len(y.Words) < 30 {
				y = with(y, w)
			}
		}
		y = with(y)
		r.Shuffle(len(y.Words), func(i, j int) { y.Words[i], y.Words[j] = y.Words[j], y.Words[i] })
		if !slices.Equal(mustLeast(t, x.Lane), mustLeast(t, y)) || blameOf(t, x.Lane) != blameOf(t, y) {
			t.Fatalf("Least, Blame of %v, but otherwise of %v", x.Lane, y)
		}
		for _, tellers := range teams() {
			is := mustExplains(t, x.Lane, tellers)
			if is != mustExplains(t, y, tellers) || is && !mustTold(t, x.Lane, tellers).equal(mustTold(t, y, tellers)) {
				t.Fatalf("without %v: %v, but otherwise of %v", tellers, x.Lane, y)
			}
		}
	})
}

// P3.11: if just one lies, nobody else is alone to blame.
func TestOneLies(t *testing.T) {
	blamed := 0
	r := rand.New(rand.NewSource(16))
	for range 2000 {
		x := night{game: someGame(r, 1+r.Intn(5))}
		liar := r.Intn(4)
		x.Frames = len(x.game)
		for range r.Intn(25) {
			if teller := r.Intn(4); teller != liar {
				x.Lane = with(x.Lane, trueWord(r, x.game, teller))
			} else {
				x.Lane = with(x.Lane, anyWord(r, x.Frames, liar))
			}
		}
		switch teller := blameOf(t, x.Lane); teller {
		case liar:
			blamed++
		case -1:
		default:
			t.Fatalf("Blame of %v: %d, but %d lies", x.Lane, teller, liar)
		}
	}
	if blamed < 300 {
		t.Errorf("only %d alone to blame", blamed)
	}
}

// P3.12: not more stand behind the second ball than behind the first one; none may, if nobody has told.
func TestBehindEachOther(t *testing.T) {
	someNights(17, 2000, 5, func(_ *rand.Rand, x night) {
		y := mustTold(t, x.Lane, x.liars)
		for frame := range x.Frames {
			first, second := y.places[2*frame], y.places[2*frame+1]
			if second.Lo > first.Lo || second.Hi > first.Hi {
				t.Fatalf("Ranges of %v without %v: %v", x.Lane, x.liars, y.places)
			}
			tells := func(w seen.Word) bool {
				return w.Place == place(frame, 1) && !slices.Contains(x.liars, w.Teller)
			}
			if !slices.ContainsFunc(x.Words, tells) && second.Lo != 0 {
				t.Fatalf("Ranges of %v without %v: %v, but nobody has told of the frame %d", x.Lane, x.liars, y.places, frame)
			}
		}
	})
}

// P3.13: the numbers in the range of a place are just those that a word more may say.
func TestEachNumber(t *testing.T) {
	someNights(18, 400, 5, func(r *rand.Rand, x night) {
		tellers := x.liars
		rest := others(tellers)
		if len(rest) == 0 {
			return
		}
		y := mustTold(t, x.Lane, tellers)
		for i, at := range placesOf(x.Lane) {
			for n := range 11 {
				w := seen.Word{Place: at, Teller: rest[r.Intn(len(rest))], Least: n, Most: n}
				if is := mustExplains(t, with(x.Lane, w), tellers); is != in(n, y.places[i]) {
					t.Fatalf("Explains of %v with %v, %v: %v; Ranges: %v", x.Lane, w, tellers, is, y.places)
				}
			}
		}
	})
}
