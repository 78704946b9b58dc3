package rate

import "kingpin/api"

// ends tell with which games more an average is the least, and the greatest.
type ends struct{ least, greatest func(tally, int) tally }

// worst has so many games of 0 more.
func (t tally) worst(games int) tally { return tally{t.sum, t.games + games} }

// best has so many games of the greatest count more.
func (t tally) best(games int) tally {
	return tally{t.sum + games*api.MaxRateCount, t.games + games}
}

// span is that of the bowler's average, if so many weeks have not been told.
func (l ledger) span(at slot, weeks int) Range {
	e := ends{tally.worst, tally.best}
	told, games := l.told(at), weeks*gamesOfSheet
	return Range{l.averageBy(at.bowler, e.least(told, games)), l.averageBy(at.bowler, e.greatest(told, games))}
}
