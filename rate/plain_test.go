package rate_test

import (
	"math/rand"
	"slices"
	"testing"

	"kingpin/api"
	"kingpin/rate"
)

// The slow model: by the words of the chapter, and nothing of the package.

func isWithdrawn(b rate.Book, number int) bool { return slices.Contains(b.Withdrawn, number) }

func plainCounts(b rate.Book, s rate.Sheet) bool {
	for _, other := range b.Sheets {
		if other.Bowler == s.Bowler && other.Week == s.Week && other.Number > s.Number && !isWithdrawn(b, other.Number) {
			return false
		}
	}
	return !isWithdrawn(b, s.Number)
}

// plainSheets are the sheets that count, each of them once, by their numbers.
func plainSheets(b rate.Book) []rate.Sheet {
	var list []rate.Sheet
	for _, s := range b.Sheets {
		if plainCounts(b, s) && !slices.Contains(list, s) {
			list = append(list, s)
		}
	}
	slices.SortFunc(list, func(s, other rate.Sheet) int { return s.Number - other.Number })
	return list
}

func plainCounting(b rate.Book) []int {
	var list []int
	for _, s := range plainSheets(b) {
		list = append(list, s.Number)
	}
	return list
}

// gamesBefore are all counts of the bowler before the week.
func gamesBefore(b rate.Book, bowler, week int) []int {
	var counts []int
	for _, s := range plainSheets(b) {
		if s.Bowler == bowler && s.Week < week {
			counts = append(counts, s.Games[0], s.Games[1], s.Games[2])
		}
	}
	return counts
}

func together(counts []int) int {
	n := 0
	for _, count := range counts {
		n += count
	}
	return n
}

// down is the greatest number that is not above a by b; neither is below 0.
func down(a, b int) int {
	n := 0
	for (n+1)*b <= a {
		n++
	}
	return n
}

func averageOf(b rate.Book, bowler int, counts []int) int {
	if len(counts) < b.Law.Least {
		return b.Bowlers[bowler]
	}
	return down(together(counts), len(counts))
}

func plainAverage(b rate.Book, bowler, week int) int {
	return averageOf(b, bowler, gamesBefore(b, bowler, week))
}

func plainHandicap(b rate.Book, bowler, week int) int {
	less := b.Law.Base - plainAverage(b, bowler, week)
	if less < 0 {
		return 0
	}
	return min(down(less*b.Law.Percent, 100), b.Law.Cap)
}

// plainMakes is what the bowler makes in one of the games.
func plainMakes(b rate.Book, bowler, week, game int) int {
	made := plainAverage(b, bowler, week) - b.Law.Blind
	if made < 0 {
		made = 0
	}
	for _, s := range plainSheets(b) {
		if s.Bowler == bowler && s.Week == week {
			made = s.Games[game]
		}
	}
	return made + plainHandicap(b, bowler, week)
}

// plainPoints are those of one game, or of all of them.
func plainPoints(home, away int) (forHome, forAway int) {
	if home == away {
		return 1, 1
	}
	if home > away {
		return 2, 0
	}
	return 0, 2
}

func plainMatch(b rate.Book, week int, home, away []int) (forHome, forAway int) {
	var all [2]int
	for game := range 3 {
		var made [2]int
		for i, team := range [][]int{home, away} {
			for _, bowler := range team {
				made[i] += plainMakes(b, bowler, week, game)
			}
			all[i] += made[i]
		}
		h, a := plainPoints(made[0], made[1])
		forHome, forAway = forHome+h, forAway+a
	}
	h, a := plainPoints(all[0], all[1])
	return forHome + h, forAway + a
}

// plainAverages are all averages that the bowler may have, rising: games that were not told make anything from 0 to 300 each.
func plainAverages(b rate.Book, bowler, week int, weeks []int) []int {
	known := gamesBefore(b, bowler, week)
	games := len(known) + 3*len(weeks)
	if games < b.Law.Least {
		return list(b.Bowlers[bowler])
	}
	var averages []int
	for untold := 0; untold <= 900*len(weeks); untold++ {
		n := (together(known) + untold) / games
		if len(averages) == 0 || averages[len(averages)-1] != n {
			averages = append(averages, n)
		}
	}
	return averages
}

// Books by chance.

// fates are what books by chance have at the most: with few bowlers and weeks many sheets are corrected.
type fates struct{ bowlers, weeks, sheets, numbers, greatest int }

func someLaw(r *rand.Rand) rate.Law {
	l := rate.Law{Base: r.Intn(301), Percent: r.Intn(101), Cap: r.Intn(301), Least: 1 + r.Intn(30), Blind: r.Intn(301)}
	if r.Intn(2) == 0 {
		l = rate.Law{Base: 150 + r.Intn(80), Percent: 70 + r.Intn(31), Cap: 40 + r.Intn(40), Least: 1 + r.Intn(9), Blind: r.Intn(20)}
	}
	return l
}

func someGames(r *rand.Rand, greatest int) [3]int {
	return [3]int{r.Intn(greatest + 1), r.Intn(greatest + 1), r.Intn(greatest + 1)}
}

// someBook has bowlers, at least one, and sheets, some of them twice; some are withdrawn.
func someBook(r *rand.Rand, f fates) rate.Book {
	b := rate.Book{Law: someLaw(r), Bowlers: make([]int, 1+r.Intn(f.bowlers))}
	for i := range b.Bowlers {
		b.Bowlers[i] = r.Intn(f.greatest + 1)
	}
	known := map[int]rate.Sheet{}
	for range r.Intn(f.sheets + 1) {
		number := 1 + r.Intn(f.numbers)
		s, ok := known[number]
		if !ok {
			s = rate.Sheet{Number: number, Bowler: r.Intn(len(b.Bowlers)), Week: 1 + r.Intn(f.weeks), Games: someGames(r, f.greatest)}
			known[number] = s
		}
		b.Sheets = append(b.Sheets, s)
	}
	for number := 1; number <= f.numbers && len(b.Withdrawn) < 40; number++ {
		if r.Intn(6) == 0 {
			b.Withdrawn = append(b.Withdrawn, number)
		}
	}
	return b
}

// someBooks visits books by chance: small ones, ones with equal counts, and ones as large as they may be.
func someBooks(seed int64, times int, visit func(r *rand.Rand, b rate.Book, f fates)) {
	r := rand.New(rand.NewSource(seed))
	kinds := []fates{{3, 4, 12, 15, 300}, {4, 3, 20, 25, 4}, {8, 8, 40, 60, 300}, {2, 30, 40, 45, 300}, {8, 30, 40, 999, 300}}
	for i := range times {
		f := kinds[i%len(kinds)]
		visit(r, someBook(r, f), f)
	}
}

// someTeams are none if there are not bowlers enough.
func someTeams(r *rand.Rand, b rate.Book) (home, away []int, ok bool) {
	l := r.Perm(len(b.Bowlers))
	if len(l) < 2 {
		return nil, nil, false
	}
	n := 1 + r.Intn(min(len(l)-1, 4))
	m := 1 + r.Intn(min(len(l)-n, 4))
	return l[:n], l[n : n+m], true
}

// someUntold are lesser weeks of which no sheet of the bowler counts.
func someUntold(r *rand.Rand, b rate.Book, bowler, week int) []int {
	var weeks []int
	counting := plainSheets(b)
	many := 1 + r.Intn(6)
	for w := 1; w < week; w++ {
		told := slices.ContainsFunc(counting, func(s rate.Sheet) bool { return s.Bowler == bowler && s.Week == w })
		if !told && r.Intn(many) == 0 {
			weeks = append(weeks, w)
		}
	}
	return weeks
}

// The calls, where they must not have an error.

func mustCount(t *testing.T, b rate.Book) []int {
	t.Helper()
	l, e := rate.Counting(b)
	if c := rate.CheckBook(b); e != api.OK || c != api.OK {
		t.Fatalf("Counting, CheckBook of %v: %v, %v", b, e, c)
	}
	return l
}

func mustAverage(t *testing.T, b rate.Book, bowler, week int) int {
	t.Helper()
	n, e := rate.Average(b, bowler, week)
	if e != api.OK {
		t.Fatalf("Average of %d, %d in %v: %v", bowler, week, b, e)
	}
	return n
}

func mustHandicap(t *testing.T, b rate.Book, bowler, week int) int {
	t.Helper()
	n, e := rate.Handicap(b, bowler, week)
	if e != api.OK {
		t.Fatalf("Handicap of %d, %d in %v: %v", bowler, week, b, e)
	}
	return n
}

func mustMatch(t *testing.T, b rate.Book, week int, home, away []int) (forHome, forAway int) {
	t.Helper()
	forHome, forAway, e := rate.Match(b, week, home, away)
	if e != api.OK {
		t.Fatalf("Match of %d, %v, %v in %v: %v", week, home, away, b, e)
	}
	return forHome, forAway
}

func mustSpan(t *testing.T, b rate.Book, bowler, week int, weeks []int) rate.Range {
	t.Helper()
	s, e := rate.Span(b, bowler, week, weeks)
	if e != api.OK {
		t.Fatalf("Span of %d, %d, %v in %v: %v", bowler, week, weeks, b, e)
	}
	return s
}

// P7.1: against the sheets that count by the chapter's words.
func TestCountingByChance(t *testing.T) {
	var kinds [3]int
	someBooks(1, 4000, func(_ *rand.Rand, b rate.Book, _ fates) {
		want := plainCounting(b)
		if l := mustCount(t, b); !slices.Equal(l, want) {
			t.Fatalf("Counting of %v: %v, not %v", b, l, want)
		}
		for _, s := range b.Sheets {
			switch {
			case plainCounts(b, s):
				kinds[0]++
			case isWithdrawn(b, s.Number):
				kinds[1]++
			default:
				kinds[2]++
			}
		}
	})
	wantMany(t, 1000, kinds[:])
}

// P7.2, P7.3: against averages and handicaps by the chapter's words, for all bowlers.
func TestRatesByChance(t *testing.T) {
	var averages [2]int
	var handicaps [3]int
	someBooks(2, 3000, func(r *rand.Rand, b rate.Book, f fates) {
		for bowler := range b.Bowlers {
			week := 1 + r.Intn(min(f.weeks+2, 30))
			want := plainAverage(b, bowler, week)
			if n := mustAverage(t, b, bowler, week); n != want {
				t.Fatalf("Average of %d, %d in %v: %d, not %d", bowler, week, b, n, want)
			}
			handicap := plainHandicap(b, bowler, week)
			if n := mustHandicap(t, b, bowler, week); n != handicap {
				t.Fatalf("Handicap of %d, %d in %v: %d, not %d", bowler, week, b, n, handicap)
			}
			count(averages[:], len(gamesBefore(b, bowler, week)) >= b.Law.Least)
			switch handicap {
			case 0:
				handicaps[0]++
			case b.Law.Cap:
				handicaps[1]++
			default:
				handicaps[2]++
			}
		}
	})
	wantMany(t, 500, averages[:])
	wantMany(t, 500, handicaps[:])
}

// P7.4: against matches by the chapter's words.
func TestMatchesByChance(t *testing.T) {
	var points [9]int
	someBooks(3, 12000, func(r *rand.Rand, b rate.Book, f fates) {
		home, away, ok := someTeams(r, b)
		if !ok {
			return
		}
		week := 1 + r.Intn(min(f.weeks+1, 30))
		forHome, forAway := plainMatch(b, week, home, away)
		if h, a := mustMatch(t, b, week, home, away); h != forHome || a != forAway {
			t.Fatalf("Match of %d, %v, %v in %v: %d, %d, not %d, %d", week, home, away, b, h, a, forHome, forAway)
		}
		points[forHome]++
	})
	wantMany(t, 10, points[:])
}

// P7.5: against all averages that can be; P2: each of the span is one of them.
func TestSpansByChance(t *testing.T) {
	var kinds [3]int
	someBooks(4, 3000, func(r *rand.Rand, b rate.Book, f fates) {
		bowler, week := r.Intn(len(b.Bowlers)), 1+r.Intn(min(f.weeks+2, 30))
		weeks := someUntold(r, b, bowler, week)
		averages := plainAverages(b, bowler, week, weeks)
		want := rate.Range{Lo: averages[0], Hi: averages[len(averages)-1]}
		if s := mustSpan(t, b, bowler, week, weeks); s != want || s.Hi-s.Lo+1 != len(averages) {
			t.Fatalf("Span of %d, %d, %v in %v: %v, not %v", bowler, week, weeks, b, s, want)
		}
		kinds[min(len(averages)-1, 2)]++
	})
	wantMany(t, 1, kinds[:1])
	wantMany(t, 500, kinds[2:])
}

// count counts what is not so first, then what is.
func count(kinds []int, is bool) {
	if is {
		kinds[1]++
	} else {
		kinds[0]++
	}
}

// wantMany tells if a test by chance has not met all kinds of cases.
func wantMany(t *testing.T, least int, kinds []int) {
	t.Helper()
	if slices.Min(kinds) < least {
		t.Errorf("too few of some kind: %v", kinds)
	}
}
