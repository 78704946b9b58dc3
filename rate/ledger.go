package rate

import (
	"iter"
	"slices"

	"kingpin/api"
)

// ledger is a book that was read, with its sheets that count.
type ledger struct {
	Book
	counting map[slot]Sheet
}

// slot is a bowler in a week.
type slot struct{ bowler, week int }

func (s Sheet) slot() slot { return slot{s.Bowler, s.Week} }

func (b Book) read() ledger {
	l := ledger{b, map[slot]Sheet{}}
	for _, s := range b.Sheets {
		// Where there is no sheet yet, its number is 0, less than any.
		if s.Number > l.counting[s.slot()].Number && !slices.Contains(b.Withdrawn, s.Number) {
			l.counting[s.slot()] = s
		}
	}
	return l
}

func (l ledger) has(at slot) bool { return l.counting[at].Number > 0 }

// before yields the bowler's sheets that count, of the weeks before this one.
func (l ledger) before(at slot) iter.Seq[Sheet] {
	return func(yield func(Sheet) bool) {
		for week := 1; week < at.week; week++ {
			s, ok := l.counting[slot{at.bowler, week}]
			if ok && !yield(s) {
				return
			}
		}
	}
}

func (l ledger) numbers() []int {
	var list []int
	for bowler := range l.Bowlers {
		for s := range l.before(slot{bowler, api.MaxRateWeeks + 1}) {
			list = append(list, s.Number)
		}
	}
	slices.Sort(list)
	return list
}

// tally is what so many games make together.
type tally struct{ sum, games int }

func (t tally) with(counts ...int) tally {
	return tally{t.sum + sum(counts...), t.games + len(counts)}
}

// told is what the bowler's games before the week make.
func (l ledger) told(at slot) tally {
	var t tally
	for s := range l.before(at) {
		t = t.with(s.Games[:]...)
	}
	return t
}

// averageBy is the bowler's average, if these are their games before the week.
func (l ledger) averageBy(bowler int, t tally) int {
	if t.games < l.Law.Least {
		return l.Bowlers[bowler]
	}
	return t.sum / t.games
}

func (l ledger) average(at slot) int { return l.averageBy(at.bowler, l.told(at)) }

func (l ledger) handicap(at slot) int {
	// The division rounds towards 0, but what is below 0 does not count anyway.
	n := (l.Law.Base - l.average(at)) * l.Law.Percent / 100
	return min(max(n, 0), l.Law.Cap)
}

func (l ledger) blind(at slot) int { return max(l.average(at)-l.Law.Blind, 0) }

func sum(counts ...int) int {
	n := 0
	for _, count := range counts {
		n += count
	}
	return n
}
