package rate_test

import (
	"math/rand"
	"reflect"
	"slices"
	"testing"

	"kingpin/rate"
)

// told is all that a book tells, of all bowlers and weeks.
type told struct {
	counting         []int
	averages         [][30]int
	handicaps        [][30]int
	forHome, forAway int
	span             rate.Range
}

// question is what besides the averages and handicaps is asked.
type question struct {
	week, bowler int
	weeks        []int
	home, away   []int
}

func someQuestion(r *rand.Rand, b rate.Book, f fates) question {
	q := question{week: 1 + r.Intn(min(f.weeks+1, 30)), bowler: r.Intn(len(b.Bowlers))}
	q.weeks = someUntold(r, b, q.bowler, q.week)
	q.home, q.away, _ = someTeams(r, b)
	return q
}

func (q question) of(t *testing.T, b rate.Book) told {
	t.Helper()
	x := told{counting: mustCount(t, b), span: mustSpan(t, b, q.bowler, q.week, q.weeks)}
	for bowler := range b.Bowlers {
		var averages, handicaps [30]int
		for i := range 30 {
			averages[i], handicaps[i] = mustAverage(t, b, bowler, i+1), mustHandicap(t, b, bowler, i+1)
		}
		x.averages, x.handicaps = append(x.averages, averages), append(x.handicaps, handicaps)
	}
	if len(q.home) > 0 {
		x.forHome, x.forAway = mustMatch(t, b, q.week, q.home, q.away)
	}
	return x
}

// wantSame tells if the books do not tell the same.
func (q question) wantSame(t *testing.T, b, other rate.Book) {
	t.Helper()
	if x, y := q.of(t, b), q.of(t, other); !reflect.DeepEqual(x, y) {
		t.Fatalf("not the same:\n%v tells %v\n%v tells %v", b, x, other, y)
	}
}

// P7.6: sheets in another order, and some of them twice.
func TestAnyOrder(t *testing.T) {
	someBooks(11, 500, func(r *rand.Rand, b rate.Book, f fates) {
		other := b
		other.Sheets = slices.Clone(b.Sheets)
		for len(b.Sheets) > 0 && len(other.Sheets) < 40 && r.Intn(6) > 0 {
			other.Sheets = append(other.Sheets, b.Sheets[r.Intn(len(b.Sheets))])
		}
		r.Shuffle(len(other.Sheets), func(i, j int) {
			other.Sheets[i], other.Sheets[j] = other.Sheets[j], other.Sheets[i]
		})
		someQuestion(r, b, f).wantSame(t, b, other)
	})
}

// less is the book without the sheets that are so.
func less(b rate.Book, is func(s rate.Sheet) bool) rate.Book {
	b.Sheets = slices.DeleteFunc(slices.Clone(b.Sheets), is)
	return b
}

// changed has the sheets that are so with other games, and the others as they were.
func changed(r *rand.Rand, b rate.Book, is func(s rate.Sheet) bool) rate.Book {
	b.Sheets = slices.Clone(b.Sheets)
	games := map[int][3]int{}
	for i, s := range b.Sheets {
		if !is(s) {
			continue
		}
		if _, ok := games[s.Number]; !ok {
			games[s.Number] = someGames(r, 300)
		}
		b.Sheets[i].Games = games[s.Number]
	}
	return b
}

// P7.7: a sheet that is withdrawn, or corrected, could as well have other games, or not be there.
func TestWithdrawn(t *testing.T) {
	var withdrawn, corrected [2]int
	someBooks(12, 300, func(r *rand.Rand, b rate.Book, f fates) {
		q := someQuestion(r, b, f)
		isOut := func(s rate.Sheet) bool { return isWithdrawn(b, s.Number) }
		isOld := func(s rate.Sheet) bool { return !isWithdrawn(b, s.Number) && !plainCounts(b, s) }
		for _, is := range []func(s rate.Sheet) bool{isOut, isOld} {
			q.wantSame(t, b, less(b, is))
			q.wantSame(t, b, changed(r, b, is))
		}
		count(withdrawn[:], slices.ContainsFunc(b.Sheets, isOut))
		count(corrected[:], slices.ContainsFunc(b.Sheets, isOld))
	})
	wantMany(t, 20, withdrawn[:])
	wantMany(t, 20, corrected[:])
}

// P7.7: where the last correction is withdrawn, the sheet before it counts again.
func TestCorrectionWithdrawn(t *testing.T) {
	some := 0
	someBooks(13, 500, func(r *rand.Rand, b rate.Book, f fates) {
		if len(b.Sheets) == 0 || len(b.Sheets) == 40 || len(b.Withdrawn) == 40 {
			return
		}
		old := b.Sheets[r.Intn(len(b.Sheets))]
		correction := rate.Sheet{Number: 999, Bowler: old.Bowler, Week: old.Week, Games: someGames(r, f.greatest)}
		if slices.ContainsFunc(b.Sheets, func(s rate.Sheet) bool { return s.Number == 999 }) {
			return
		}
		q, more := someQuestion(r, b, f), and(b, correction)
		gone := more
		gone.Withdrawn = append(slices.Clone(b.Withdrawn), 999)
		q.wantSame(t, b, gone)
		q.weeks = nil
		before := less(more, func(s rate.Sheet) bool {
			return s.Bowler == old.Bowler && s.Week == old.Week && s.Number < 999
		})
		q.wantSame(t, more, before)
		some++
	})
	wantMany(t, 200, []int{some})
}

// P7.8: sheets of the week, of later ones and of other bowlers change nothing.
func TestWhatComesLater(t *testing.T) {
	someBooks(14, 2000, func(r *rand.Rand, b rate.Book, f fates) {
		bowler, week := r.Intn(len(b.Bowlers)), 1+r.Intn(min(f.weeks+1, 30))
		isOther := func(s rate.Sheet) bool { return s.Bowler != bowler || s.Week >= week }
		for _, other := range []rate.Book{less(b, isOther), changed(r, b, isOther)} {
			if n, m := mustAverage(t, b, bowler, week), mustAverage(t, other, bowler, week); n != m {
				t.Fatalf("Average of %d, %d in %v: %d, not %d", bowler, week, b, n, m)
			}
			if n, m := mustHandicap(t, b, bowler, week), mustHandicap(t, other, bowler, week); n != m {
				t.Fatalf("Handicap of %d, %d in %v: %d, not %d", bowler, week, b, n, m)
			}
		}
	})
}

// P7.9: handicaps keep their bounds, and fall where averages rise.
func TestBounds(t *testing.T) {
	someBooks(15, 2000, func(r *rand.Rand, b rate.Book, f fates) {
		week := 1 + r.Intn(min(f.weeks+1, 30))
		for bowler := range b.Bowlers {
			average, handicap := mustAverage(t, b, bowler, week), mustHandicap(t, b, bowler, week)
			if handicap < 0 || handicap > b.Law.Cap || average+handicap > max(b.Law.Base, average) {
				t.Fatalf("Average, Handicap of %d, %d in %v: %d, %d", bowler, week, b, average, handicap)
			}
			for other := range bowler {
				a, h := mustAverage(t, b, other, week), mustHandicap(t, b, other, week)
				if a <= average && h < handicap || average <= a && handicap < h {
					t.Fatalf("Handicap of %d, %d for %d in %v: %d, %d", bowler, other, week, b, handicap, h)
				}
			}
		}
	})
}

// toldLater is the book with the sheets of weeks that had not been told.
func toldLater(b rate.Book, bowler int, weeks []int, games func() [3]int) rate.Book {
	number := 1
	taken := func(s rate.Sheet) bool { return s.Number == number }
	for _, week := range weeks {
		for slices.ContainsFunc(b.Sheets, taken) || isWithdrawn(b, number) {
			number++
		}
		b = and(b, rate.Sheet{Number: number, Bowler: bowler, Week: week, Games: games()})
	}
	return b
}

// P7.10: the average is in the span, whatever is told; its ends are reached.
func TestWhatWasNotTold(t *testing.T) {
	var kinds [2]int
	someBooks(16, 3000, func(r *rand.Rand, b rate.Book, f fates) {
		bowler, week := r.Intn(len(b.Bowlers)), 1+r.Intn(min(f.weeks+1, 30))
		weeks := someUntold(r, b, bowler, week)
		if len(b.Sheets)+len(weeks) > 40 {
			return
		}
		s := mustSpan(t, b, bowler, week, weeks)
		none := toldLater(b, bowler, weeks, func() [3]int { return [3]int{} })
		most := toldLater(b, bowler, weeks, func() [3]int { return [3]int{300, 300, 300} })
		if low, high := mustAverage(t, none, bowler, week), mustAverage(t, most, bowler, week); low != s.Lo || high != s.Hi {
			t.Fatalf("Span of %d, %d, %v in %v: %v, not %d..%d", bowler, week, weeks, b, s, low, high)
		}
		for range 3 {
			some := toldLater(b, bowler, weeks, func() [3]int { return someGames(r, 300) })
			if n := mustAverage(t, some, bowler, week); n < s.Lo || n > s.Hi {
				t.Fatalf("Span of %d, %d, %v in %v: %v without %d", bowler, week, weeks, b, s, n)
			}
		}
		if len(weeks) == 0 {
			return
		}
		few := len(gamesBefore(b, bowler, week))+3*len(weeks) < b.Law.Least
		if few != (s.Lo == s.Hi) || few && s.Lo != b.Bowlers[bowler] {
			t.Fatalf("Span of %d, %d, %v in %v: %v", bowler, week, weeks, b, s)
		}
		count(kinds[:], few)
	})
	wantMany(t, 200, kinds[:])
}

// P7.11: 8 points together; Home and Away exchanged; bowlers who were all absent.
func TestPoints(t *testing.T) {
	var absent [9]int
	someBooks(17, 6000, func(r *rand.Rand, b rate.Book, f fates) {
		q := someQuestion(r, b, f)
		if len(q.home) == 0 {
			return
		}
		h, a := mustMatch(t, b, q.week, q.home, q.away)
		if back, forth := mustMatch(t, b, q.week, q.away, q.home); h+a != 8 || back != a || forth != h {
			t.Fatalf("Match of %d, %v, %v in %v: %d, %d; exchanged %d, %d", q.week, q.home, q.away, b, h, a, back, forth)
		}
		all := slices.Concat(q.home, q.away)
		empty := less(b, func(s rate.Sheet) bool { return s.Week == q.week && slices.Contains(all, s.Bowler) })
		h, _ = mustMatch(t, empty, q.week, q.home, q.away)
		absent[h]++
	})
	for h, n := range absent {
		if (n > 0) != (h%4 == 0) {
			t.Errorf("%d matches of absent bowlers have %d points", n, h)
		}
	}
}

// better is the book in which one game of the sheet has a greater count, if any can.
func better(r *rand.Rand, b rate.Book, number int) (rate.Book, bool) {
	b.Sheets = slices.Clone(b.Sheets)
	game, more := r.Intn(3), 1+r.Intn(100)
	found := false
	for i, s := range b.Sheets {
		if s.Number == number && s.Games[game]+more <= 300 {
			b.Sheets[i].Games[game] += more
			found = true
		}
	}
	return b, found
}

// P7.12: a greater count in a game of the week.
func TestBetter(t *testing.T) {
	var points [2]int
	someBooks(18, 4000, func(r *rand.Rand, b rate.Book, f fates) {
		home, away, ok := someTeams(r, b)
		if !ok || len(b.Sheets) == 0 {
			return
		}
		s := b.Sheets[r.Intn(len(b.Sheets))]
		other, found := better(r, b, s.Number)
		if !found {
			return
		}
		h, a := mustMatch(t, b, s.Week, home, away)
		oh, oa := mustMatch(t, other, s.Week, home, away)
		atHome, isAway := slices.Contains(home, s.Bowler), slices.Contains(away, s.Bowler)
		if atHome && oh < h || isAway && oa < a || !atHome && !isAway && oh != h {
			t.Fatalf("Match of %d, %v, %v in %v: %d, %d; better %d, %d", s.Week, home, away, b, h, a, oh, oa)
		}
		for bowler := range b.Bowlers {
			for week := 1; week <= s.Week; week++ {
				if n, m := mustAverage(t, b, bowler, week), mustAverage(t, other, bowler, week); n != m {
					t.Fatalf("Average of %d, %d in %v: %d; better %d", bowler, week, b, n, m)
				}
			}
		}
		count(points[:], oh != h)
	})
	wantMany(t, 100, points[:])
}

// even are bowlers who always bowl the count with which they enter; who is absent does not, now and then.
func even(r *rand.Rand, absent bool) rate.Book {
	b := rate.Book{Law: someLaw(r)}
	for bowler := range 2 * (1 + r.Intn(4)) {
		b.Bowlers = append(b.Bowlers, r.Intn(301))
		for week := 1; week <= 5; week++ {
			n := b.Bowlers[bowler]
			if !absent || r.Intn(4) > 0 {
				b.Sheets = append(b.Sheets, sheet(1+len(b.Sheets), bowler, week, n, n, n))
			}
		}
	}
	return b
}

// P7.13: who always bowls the average has it for each week; all of them are even with handicaps.
func TestAllAlike(t *testing.T) {
	r := rand.New(rand.NewSource(19))
	for range 2000 {
		b := even(r, true)
		week := 1 + r.Intn(7)
		for bowler, want := range b.Bowlers {
			if n := mustAverage(t, b, bowler, week); n != want {
				t.Fatalf("Average of %d, %d in %v: %d, not %d", bowler, week, b, n, want)
			}
		}
		b = even(r, false)
		b.Law.Percent, b.Law.Cap, b.Law.Base = 100, 300, 300
		week = 1 + r.Intn(5)
		l := r.Perm(len(b.Bowlers))
		if h, a := mustMatch(t, b, week, l[:len(l)/2], l[len(l)/2:]); h != 4 || a != 4 {
			t.Fatalf("Match of %d, %v in %v: %d, %d", week, l, b, h, a)
		}
	}
}
