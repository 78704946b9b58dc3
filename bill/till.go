package bill

import (
	"cmp"
	"iter"
	"slices"

	"kingpin/api"
)

// told is messages by their No, each of them once if no two of the same No differ.
type told []Message

func tell(l ...Message) told {
	byNo := func(a, b Message) int { return cmp.Compare(a.No, b.No) }
	sorted := slices.Clone(l)
	slices.SortFunc(sorted, byNo)
	return slices.Compact(sorted)
}

// greatest is the greatest No, and 0 if there is no message.
func (t told) greatest() int {
	if len(t) == 0 {
		return 0
	}
	return t[len(t)-1].No
}

// gap is the sales between two messages, by their numbers; there may be none. They have taken the coins together, and behind them is the later one of the messages.
type gap struct {
	Range
	coins  int
	behind Message
}

// gaps yields one ahead of each message.
func (t told) gaps() iter.Seq[gap] {
	return func(yield func(gap) bool) {
		var before Message
		for _, m := range t {
			g := gap{Range{before.No + 1, m.No - 1}, m.Total - m.Coins - before.Total, m}
			if !yield(g) {
				return
			}
			before = m
		}
	}
}

func (g gap) sales() int { return g.Hi - g.Lo + 1 }

// in tells how many of the gap's sales are some of these.
func (g gap) in(some Range) int { return max(min(g.Hi, some.Hi)-max(g.Lo, some.Lo)+1, 0) }

// most is the greatest number of coins that so many of the gap's sales can have taken: each of the others took 1 at least.
func (g gap) most(many int) int {
	return least(many*api.MaxBillSale, g.coins-(g.sales()-many))
}

// least is what so many of the gap's sales have taken if the others took the most.
func (g gap) least(many int) int { return g.coins - g.most(g.sales()-many) }

// end tells what so many of a gap's sales have taken at an end of their range.
type end struct{ of func(g gap, many int) int }

// till has what is told of sales, and some sales fit that.
type till struct{ told }

// read returns the till, or the error of the messages.
func read(l []Message) (till, api.Errno) {
	if e := checkMessages(l); e != api.OK {
		return till{}, e
	}
	t := till{tell(l...)}
	if t.contradicts() {
		return till{}, api.ErrFail
	}
	return t, api.OK
}

// contradicts tells whether no sales fit.
func (t told) contradicts() bool {
	found := false
search:
	for g := range t.gaps() {
		sales := g.sales()
		switch {
		// Of two messages of the same No the second one has -1 sales ahead of it.
		case sales < 0, !within(g.coins, sales, sales*api.MaxBillSale):
			found = true
			break search
		}
	}
	return found
}

// taken is what some sales took together at an end of their range. What is taken in one gap does not bound what is in another one.
func (t till) taken(some Range, e end) int {
	coins := 0
	for g := range t.gaps() {
		coins += e.of(g, g.in(some))
		if some.has(g.behind.No) {
			coins += g.behind.Coins
		}
	}
	return coins
}

func least(first int, others ...int) int {
	for _, n := range others {
		first = min(first, n)
	}
	return first
}
