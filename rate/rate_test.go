package rate_test

import (
	"slices"
	"testing"

	"kingpin/api"
	"kingpin/rate"
)

func list(x ...int) []int { return x }

func sheet(number, bowler, week, first, second, third int) rate.Sheet {
	return rate.Sheet{Number: number, Bowler: bowler, Week: week, Games: [3]int{first, second, third}}
}

func sheets(l ...rate.Sheet) []rate.Sheet { return l }

// book has the law of the examples.
func book(bowlers []int, l ...rate.Sheet) rate.Book {
	return rate.Book{Law: rate.Law{Base: 200, Percent: 80, Cap: 60, Least: 6, Blind: 10}, Bowlers: bowlers, Sheets: l}
}

// example is the book of the chapter's examples.
func example() rate.Book {
	return book(list(150, 170), sheet(1, 0, 1, 140, 160, 150), sheet(2, 0, 2, 180, 130, 141), sheet(3, 1, 1, 200, 190, 180), sheet(4, 0, 2, 180, 130, 171))
}

// by is the book with its law changed.
func by(b rate.Book, change func(l *rate.Law)) rate.Book {
	change(&b.Law)
	return b
}

func least(b rate.Book, n int) rate.Book { return by(b, func(l *rate.Law) { l.Least = n }) }

// without is the book with these numbers withdrawn.
func without(b rate.Book, numbers ...int) rate.Book {
	b.Withdrawn = numbers
	return b
}

// and is the book with sheets more.
func and(b rate.Book, l ...rate.Sheet) rate.Book {
	b.Sheets = append(slices.Clone(b.Sheets), l...)
	return b
}

// always is a season of the bowler, in the weeks from 1 on, in which all games have the same count.
func always(first, bowler, weeks, count int) []rate.Sheet {
	var l []rate.Sheet
	for week := 1; week <= weeks; week++ {
		l = append(l, sheet(first+week-1, bowler, week, count, count, count))
	}
	return l
}

func TestExamples(t *testing.T) {
	b := example()
	if l := mustCount(t, b); !slices.Equal(l, list(1, 3, 4)) {
		t.Errorf("Counting: %v", l)
	}
	for _, x := range []struct{ bowler, week, want int }{{0, 2, 150}, {0, 3, 155}, {1, 3, 170}} {
		if n := mustAverage(t, b, x.bowler, x.week); n != x.want {
			t.Errorf("Average of %d, %d: %d", x.bowler, x.week, n)
		}
	}
	if n, m := mustHandicap(t, b, 0, 3), mustHandicap(t, b, 1, 3); n != 36 || m != 24 {
		t.Errorf("Handicap of 0, 1: %d, %d", n, m)
	}
	if h, a := mustMatch(t, b, 2, list(0), list(1)); h != 6 || a != 2 {
		t.Errorf("Match: %d, %d", h, a)
	}
	if s := mustSpan(t, b, 1, 3, list(2)); s != (rate.Range{Lo: 95, Hi: 245}) {
		t.Errorf("Span: %v", s)
	}
}

// P7.1: which sheets count: twice, corrected, withdrawn, and books without any.
func TestCounting(t *testing.T) {
	b := example()
	full := book(list(0, 0), append(always(20, 0, 20, 7), always(900, 1, 20, 8)...)...)
	var most []int
	for n := 960; n < 1000; n++ {
		most = append(most, n)
	}
	for _, x := range []struct {
		b    rate.Book
		want []int
	}{
		{rate.Book{Law: rate.Law{Least: 1}}, nil}, {book(nil), nil}, {book(list(150)), nil}, {without(book(nil), 1, 2, 999), nil},
		{book(list(1), sheet(999, 0, 30, 300, 300, 300)), list(999)}, {book(list(1), sheet(1, 0, 1, 0, 0, 0)), list(1)},
		// What is there twice is one.
		{and(b, b.Sheets...), list(1, 3, 4)}, {book(list(1), slices.Repeat(sheets(sheet(5, 0, 1, 1, 2, 3)), 40)...), list(5)}, {without(and(b, b.Sheets...), 4), list(1, 2, 3)},
		// What is withdrawn corrects nothing; what was corrected may be withdrawn too, and a correction be corrected.
		{without(b, 4), list(1, 2, 3)}, {without(b, 2), list(1, 3, 4)}, {without(b, 2, 4), list(1, 3)}, {without(b, 1, 2, 3, 4), nil}, {without(b, 3), list(1, 4)},
		{and(b, sheet(7, 0, 2, 1, 1, 1)), list(1, 3, 7)}, {without(and(b, sheet(7, 0, 2, 1, 1, 1)), 7), list(1, 3, 4)}, {without(and(b, sheet(7, 0, 2, 1, 1, 1)), 4), list(1, 3, 7)}, {without(and(b, sheet(7, 0, 2, 1, 1, 1)), 4, 7), list(1, 2, 3)},
		// A correction may say the same again.
		{and(b, sheet(5, 0, 2, 180, 130, 171)), list(1, 3, 5)},
		// No sheet has the number that is withdrawn.
		{without(b, 5, 999), list(1, 3, 4)}, {without(b, most...), list(1, 3, 4)},
		// A sheet corrects no other week, and no other bowler.
		{and(b, sheet(5, 1, 2, 1, 1, 1), sheet(6, 1, 3, 1, 1, 1), sheet(7, 0, 3, 1, 1, 1)), list(1, 3, 4, 5, 6, 7)},
		{full, append(row(20, 20), row(900, 20)...)},
		// The lesser number comes behind, of another bowler or of a later week.
		{book(list(1, 2), sheet(9, 0, 1, 1, 1, 1), sheet(8, 1, 1, 1, 1, 1), sheet(3, 0, 2, 1, 1, 1)), list(3, 8, 9)},
	} {
		if l := mustCount(t, x.b); !slices.Equal(l, x.want) {
			t.Errorf("Counting of %v: %v, not %v", x.b, l, x.want)
		}
	}
}

// row has so many numbers from the first one on.
func row(first, many int) []int {
	var l []int
	for n := range many {
		l = append(l, first+n)
	}
	return l
}

// P7.2: by hand; as many games as Least, and fewer.
func TestAverage(t *testing.T) {
	b := example()
	for _, x := range []struct {
		b            rate.Book
		bowler, week int
		want         int
	}{
		// Before the weeks 1, 2 and 3 there are 0, 3 and 6 games of 0; 3 of 1.
		{b, 0, 1, 150}, {b, 0, 30, 155}, {b, 1, 1, 170}, {b, 1, 2, 170}, {least(b, 3), 0, 1, 150}, {least(b, 3), 0, 2, 150}, {least(b, 3), 1, 2, 190}, {least(b, 4), 1, 2, 170}, {least(b, 4), 0, 3, 155}, {least(b, 5), 0, 3, 155}, {least(b, 7), 0, 3, 150}, {least(b, 1), 0, 1, 150}, {least(b, 1), 1, 1, 170}, {least(b, 1), 1, 2, 190}, {least(b, 30), 0, 30, 150},
		// 901 by 6; then 450, and 481 by 3.
		{without(b, 4), 0, 3, 150}, {least(without(b, 2, 4), 3), 0, 3, 150}, {least(without(b, 1), 3), 0, 3, 160}, {least(without(b, 1, 4), 3), 0, 3, 150}, {without(b, 1), 0, 3, 150}, {least(without(b, 1, 2, 4), 1), 0, 30, 150}, {without(b, 500), 0, 3, 155},
		// 2 by 3, 3 by 3, 5 by 6, 899 by 3 and 900 by 3.
		{least(book(list(7), sheet(1, 0, 1, 0, 2, 0)), 3), 0, 2, 0}, {least(book(list(7), sheet(1, 0, 1, 0, 2, 1)), 3), 0, 2, 1}, {book(list(7), sheet(1, 0, 1, 0, 2, 1), sheet(2, 0, 2, 1, 0, 1)), 0, 3, 0}, {least(book(list(7), sheet(1, 0, 1, 300, 299, 300)), 3), 0, 2, 299}, {least(book(list(7), sheet(1, 0, 1, 300, 300, 300)), 3), 0, 2, 300},
		// 30 games, and 27.
		{least(book(list(7), always(1, 0, 10, 99)...), 30), 0, 11, 99}, {least(book(list(7), always(1, 0, 10, 99)...), 30), 0, 10, 7}, {least(book(list(0, 300), always(1, 0, 30, 99)...), 30), 0, 30, 99}, {least(book(list(0, 300), always(1, 0, 30, 99)...), 30), 1, 30, 300}, {book(list(0)), 0, 30, 0},
		// The sheet of the last week is before none.
		{least(book(list(7), sheet(1, 0, 30, 100, 100, 100)), 1), 0, 30, 7}, {least(book(list(7), sheet(1, 0, 29, 100, 100, 100)), 1), 0, 30, 100},
	} {
		if n := mustAverage(t, x.b, x.bowler, x.week); n != x.want {
			t.Errorf("Average of %d, %d in %v: %d, not %d", x.bowler, x.week, x.b, n, x.want)
		}
	}
}

// P7.3: by hand; an average above the Base, a Percent of 0 and of 100, a Cap of 0.
func TestHandicap(t *testing.T) {
	for _, x := range []struct {
		base, percent, most, average, want int
	}{
		{200, 80, 60, 155, 36}, {200, 80, 60, 170, 24}, {200, 80, 60, 125, 60}, {200, 80, 60, 126, 59}, {200, 80, 60, 124, 60}, {200, 80, 60, 0, 60},
		{200, 80, 60, 199, 0}, {200, 80, 60, 198, 1}, {200, 80, 60, 200, 0}, {200, 80, 60, 201, 0}, {200, 80, 60, 300, 0}, {200, 33, 60, 155, 14}, {200, 99, 300, 199, 0}, {200, 99, 300, 100, 99}, {200, 1, 300, 101, 0}, {200, 1, 300, 100, 1},
		{200, 0, 60, 0, 0}, {200, 0, 60, 300, 0}, {200, 100, 300, 155, 45}, {200, 100, 300, 199, 1}, {200, 100, 300, 201, 0}, {200, 100, 44, 155, 44}, {200, 100, 45, 155, 45}, {300, 100, 300, 0, 300}, {300, 100, 299, 0, 299},
		{200, 80, 0, 155, 0}, {300, 100, 0, 0, 0}, {0, 100, 300, 0, 0}, {0, 100, 300, 300, 0}, {1, 99, 300, 0, 0}, {1, 100, 300, 0, 1},
	} {
		b := by(book(list(x.average)), func(l *rate.Law) { l.Base, l.Percent, l.Cap = x.base, x.percent, x.most })
		if n := mustHandicap(t, b, 0, 1); n != x.want {
			t.Errorf("Handicap of %v: %d", x, n)
		}
	}
	// It goes by the average for the week, not by the one that the bowler has behind it.
	b := least(book(list(190), always(1, 0, 3, 100)...), 4)
	for week, want := range list(8, 8, 60, 60) {
		if n := mustHandicap(t, b, 0, week+1); n != want {
			t.Errorf("Handicap for %d: %d, not %d", week+1, n, want)
		}
	}
}

// scratch is a book by whose law no bowler has a handicap, and the blind score is the average.
func scratch(bowlers []int, l ...rate.Sheet) rate.Book {
	b := book(bowlers, l...)
	b.Law = rate.Law{Base: 200, Least: 30}
	return b
}

// P7.4: by hand; games, and all of them together, with bowlers who were absent.
func TestMatch(t *testing.T) {
	b := example()
	two := list(100, 100)
	for _, x := range []struct {
		b                rate.Book
		week             int
		home, away       []int
		forHome, forAway int
	}{
		{b, 2, list(0), list(1), 6, 2}, {b, 2, list(1), list(0), 2, 6}, {b, 1, list(0), list(1), 0, 8}, {b, 3, list(0), list(1), 0, 8},
		// The games alone: each of them, and all together, won or not.
		{scratch(two, sheet(1, 0, 1, 101, 100, 100)), 1, list(0), list(1), 6, 2}, {scratch(two, sheet(1, 0, 1, 100, 101, 100)), 1, list(0), list(1), 6, 2}, {scratch(two, sheet(1, 0, 1, 100, 100, 101)), 1, list(0), list(1), 6, 2}, {scratch(two, sheet(1, 0, 1, 99, 100, 100)), 1, list(0), list(1), 2, 6}, {scratch(two, sheet(1, 0, 1, 100, 100, 100)), 1, list(0), list(1), 4, 4},
		{scratch(two, sheet(1, 0, 1, 101, 99, 100)), 1, list(0), list(1), 4, 4}, {scratch(two, sheet(1, 0, 1, 102, 99, 100)), 1, list(0), list(1), 5, 3}, {scratch(two, sheet(1, 0, 1, 101, 98, 100)), 1, list(0), list(1), 3, 5}, {scratch(two, sheet(1, 0, 1, 101, 101, 0)), 1, list(0), list(1), 4, 4}, {scratch(two, sheet(1, 0, 1, 101, 101, 98)), 1, list(0), list(1), 5, 3}, {scratch(two, sheet(1, 0, 1, 101, 101, 99)), 1, list(0), list(1), 6, 2}, {scratch(two, sheet(1, 0, 1, 99, 99, 102)), 1, list(0), list(1), 3, 5}, {scratch(two, sheet(1, 0, 1, 99, 99, 300)), 1, list(0), list(1), 4, 4}, {scratch(two, sheet(1, 0, 1, 101, 101, 101)), 1, list(0), list(1), 8, 0}, {scratch(two, sheet(1, 0, 1, 99, 99, 99)), 1, list(0), list(1), 0, 8}, {scratch(two, sheet(1, 0, 1, 101, 100, 99)), 1, list(1), list(0), 4, 4},
		// Both have sheets; games are held against games of the same place.
		{scratch(two, sheet(1, 0, 1, 10, 20, 30), sheet(2, 1, 1, 30, 10, 20)), 1, list(0), list(1), 5, 3}, {scratch(two, sheet(1, 0, 1, 10, 20, 30), sheet(2, 1, 1, 20, 30, 10)), 1, list(0), list(1), 3, 5}, {scratch(two, sheet(1, 0, 1, 10, 20, 30), sheet(2, 1, 1, 10, 20, 30)), 1, list(0), list(1), 4, 4},
		// The sheet of another week is none; a withdrawn one neither; the correction counts.
		{scratch(two, sheet(1, 0, 2, 300, 300, 300)), 1, list(0), list(1), 4, 4}, {scratch(two, sheet(1, 0, 1, 300, 300, 300)), 2, list(0), list(1), 4, 4}, {without(scratch(two, sheet(1, 0, 1, 300, 300, 300)), 1), 1, list(0), list(1), 4, 4}, {scratch(two, sheet(1, 0, 1, 300, 300, 300), sheet(2, 0, 1, 0, 0, 0)), 1, list(0), list(1), 0, 8}, {without(scratch(two, sheet(1, 0, 1, 300, 300, 300), sheet(2, 0, 1, 0, 0, 0)), 2), 1, list(0), list(1), 8, 0},
		// A sheet of 0 is one.
		{scratch(two, sheet(1, 0, 1, 0, 0, 0)), 1, list(0), list(1), 0, 8},
	} {
		if h, a := mustMatch(t, x.b, x.week, x.home, x.away); h != x.forHome || a != x.forAway {
			t.Errorf("Match of %d, %v, %v in %v: %d, %d, not %d, %d", x.week, x.home, x.away, x.b, h, a, x.forHome, x.forAway)
		}
	}
}

// P7.4: blind scores, also such as would be below 0, with the handicap besides.
func TestBlind(t *testing.T) {
	for _, x := range []struct {
		law           rate.Law
		average, made int
	}{
		{rate.Law{Least: 1}, 150, 150}, {rate.Law{Least: 1, Blind: 10}, 150, 140}, {rate.Law{Least: 1, Blind: 149}, 150, 1}, {rate.Law{Least: 1, Blind: 150}, 150, 0}, {rate.Law{Least: 1, Blind: 151}, 150, 0}, {rate.Law{Least: 1, Blind: 300}, 0, 0}, {rate.Law{Least: 1, Blind: 300}, 300, 0},
		{rate.Law{Base: 200, Percent: 80, Cap: 60, Least: 1, Blind: 10}, 150, 180}, {rate.Law{Base: 200, Percent: 80, Cap: 60, Least: 1, Blind: 300}, 150, 40}, {rate.Law{Base: 200, Percent: 80, Cap: 20, Least: 1, Blind: 300}, 150, 20}, {rate.Law{Base: 200, Percent: 100, Cap: 300, Least: 1, Blind: 0}, 150, 200}, {rate.Law{Base: 200, Percent: 100, Cap: 300, Least: 1, Blind: 0}, 250, 250}, {rate.Law{Base: 300, Percent: 100, Cap: 300, Least: 1, Blind: 300}, 0, 300},
	} {
		// The other one has a sheet, and a handicap too, which the average of 300 keeps at 0.
		for _, diff := range list(-1, 0, 1) {
			n := x.made + diff
			if n < 0 || n > 300 {
				continue
			}
			b := rate.Book{Law: x.law, Bowlers: list(x.average, 300), Sheets: sheets(sheet(1, 1, 4, n, n, n))}
			h, a := mustMatch(t, b, 4, list(0), list(1))
			if h != 4-4*diff || a != 4+4*diff {
				t.Errorf("Match of %v, %d with %d: %d, %d", x.law, x.average, n, h, a)
			}
		}
	}
	// The blind score goes by the average for the week: 100, when 3 games have been told.
	b := least(book(list(190, 300), sheet(1, 0, 1, 100, 100, 100), sheet(2, 1, 1, 200, 200, 200), sheet(3, 1, 2, 200, 200, 200)), 3)
	b.Law.Percent = 0
	b.Sheets[2].Games = [3]int{89, 90, 91}
	if h, a := mustMatch(t, b, 2, list(0), list(1)); h != 4 || a != 4 {
		t.Errorf("Match: %d, %d", h, a)
	}
}

// P7.4: teams of one bowler, of as many as may be, and of not as many as the other.
func TestTeams(t *testing.T) {
	b := scratch(list(10, 20, 30, 40, 11, 21, 31, 37), sheet(1, 3, 1, 41, 40, 39), sheet(2, 7, 1, 37, 38, 39))
	for _, x := range []struct {
		home, away       []int
		forHome, forAway int
	}{
		// 101, 100 and 99 against 100, 101 and 102.
		{list(0, 1, 2, 3), list(4, 5, 6, 7), 2, 6}, {list(3, 2, 1, 0), list(7, 5, 4, 6), 2, 6}, {list(4, 5, 6, 7), list(0, 1, 2, 3), 6, 2},
		{list(0), list(4), 0, 8}, {list(0, 1), list(2), 4, 4}, {list(0, 1, 4), list(3), 7, 1}, {list(7), list(0, 1, 2), 0, 8}, {list(0, 1, 2, 4), list(5), 8, 0}, {list(3), list(7), 7, 1}, {list(5), list(0, 4), 4, 4}, {list(0, 2), list(3), 4, 4},
	} {
		if h, a := mustMatch(t, b, 1, x.home, x.away); h != x.forHome || a != x.forAway {
			t.Errorf("Match of %v, %v: %d, %d, not %d, %d", x.home, x.away, h, a, x.forHome, x.forAway)
		}
	}
	// Each bowler of a team has a handicap: 4 of 60 each are 240.
	b = book(list(0, 0, 0, 0, 300))
	b.Law.Blind = 300
	b.Sheets = sheets(sheet(1, 4, 1, 239, 240, 241))
	if h, a := mustMatch(t, b, 1, list(0, 1, 2, 3), list(4)); h != 4 || a != 4 {
		t.Errorf("Match with handicaps: %d, %d", h, a)
	}
}

// P7.5: by hand; weeks of which there are none, and so few that Least is not reached, or just so.
func TestSpan(t *testing.T) {
	b := example()
	one := func(n int) rate.Range { return rate.Range{Lo: n, Hi: n} }
	span := func(low, high int) rate.Range { return rate.Range{Lo: low, Hi: high} }
	for _, x := range []struct {
		b            rate.Book
		bowler, week int
		weeks        []int
		want         rate.Range
	}{
		{b, 1, 3, list(2), span(95, 245)}, {b, 1, 3, nil, one(170)}, {b, 1, 3, list(), one(170)}, {b, 0, 3, nil, one(155)}, {b, 0, 1, nil, one(150)}, {b, 1, 1, nil, one(170)}, {b, 1, 30, nil, one(170)},
		// 931 and 1831 by 9; 931 and 2731 by 12; 570 and 2370 by 9.
		{b, 0, 4, list(3), span(103, 203)}, {b, 0, 30, list(28, 29), span(77, 227)}, {b, 1, 9, list(4, 7), span(63, 263)},
		// 0 games, with 3 and 6; 6 are enough, and 7 were too many.
		{without(b, 3), 1, 9, list(1), one(170)}, {without(b, 3), 1, 9, list(1, 8), span(0, 300)}, {least(b, 7), 1, 3, list(2), one(170)}, {least(b, 9), 1, 9, list(2, 3), span(63, 263)}, {least(b, 10), 1, 9, list(2, 3), one(170)}, {least(b, 3), 1, 3, nil, one(190)}, {least(b, 3), 1, 3, list(2), span(95, 245)}, {least(b, 1), 1, 2, nil, one(190)},
		// The sheet of the week itself, and of later ones, are none.
		{least(b, 3), 0, 2, list(), one(150)}, {least(without(b, 1), 3), 0, 2, list(1), span(0, 300)}, {without(b, 1), 0, 3, list(1), span(80, 230)}, {without(b, 1), 0, 4, list(1, 3), span(53, 253)},
		// All weeks there are: 29 of 3 games.
		{book(list(5)), 0, 30, row(1, 29), span(0, 300)}, {book(list(5), sheet(1, 0, 15, 290, 0, 0)), 0, 30, append(row(1, 14), row(16, 14)...), span(3, 292)}, {least(book(list(5)), 30), 0, 11, row(1, 9), one(5)}, {least(book(list(5)), 30), 0, 11, row(1, 10), span(0, 300)},
		// Of others, and of sheets that do not count, the weeks may be.
		{b, 1, 4, list(2, 3), span(63, 263)}, {without(b, 2, 4), 0, 3, list(2), span(75, 225)}, {without(b, 1, 2, 4), 0, 3, list(1, 2), span(0, 300)},
	} {
		if s := mustSpan(t, x.b, x.bowler, x.week, x.weeks); s != x.want {
			t.Errorf("Span of %d, %d, %v in %v: %v, not %v", x.bowler, x.week, x.weeks, x.b, s, x.want)
		}
	}
}

// The limits are those of the chapter.
func TestLimits(t *testing.T) {
	if api.MaxRateCount != 300 || api.MaxRateLeast != 30 || api.MaxRateBowlers != 8 || api.MaxRateSheets != 40 || api.MaxRateNumber != 999 || api.MaxRateWeeks != 30 || api.MaxRateTeam != 4 {
		t.Error("other limits")
	}
}
