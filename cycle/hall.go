package cycle

import (
	"iter"
	"slices"

	"kingpin/api"
)

// hall is a machine, and where its locks are.
type hall struct {
	Machine
	locked locked
}

// locked has of each signal the spots, or the states, that forbid it.
type locked [Back + 1][api.MaxCycleStates]bool

func hallOf(m Machine) hall {
	h := hall{Machine: m}
	for _, l := range h.Locks {
		h.locked[l.Signal][l.At] = true
	}
	return h
}

// lockOf returns the lock that would forbid the signal at the stand.
func lockOf(at Stand, signal int) Lock {
	if isPersons(signal) {
		return Lock{signal, at.State}
	}
	return Lock{signal, at.Spot}
}

func (l locked) has(lock Lock) bool { return l[lock.Signal][lock.At] }

// move is a signal of the person, and the spot to which it leads, which may be none.
type move struct {
	signal int
	spot   func(Stand) int
}

func moves() [2]move { return [2]move{{Walk, Stand.farther}, {Back, Stand.nearer}} }

func (s Stand) farther() int { return s.Spot + 1 }

func (s Stand) nearer() int { return s.Spot - 1 }

// danger tells whether the person is behind the machine while it runs.
func (h hall) danger(at Stand) bool {
	return at.Spot == Behind && slices.Contains(h.Running, at.State)
}

// behind yields the stands behind a signal at a stand; none, if it cannot come. A stand comes twice if two steps lead to it.
func (h hall) behind(at Stand, signal int) iter.Seq[Stand] {
	return func(yield func(Stand) bool) {
		if unknown(signal) > 0 || h.locked.has(lockOf(at, signal)) {
			return
		}
		for _, m := range moves() {
			if spot := m.spot(at); m.signal == signal && isSpot(spot) && !yield(Stand{at.State, spot}) {
				return
			}
		}
		for _, s := range h.Steps {
			if s.Signal == signal && s.From == at.State && !yield(Stand{s.To, at.Spot}) {
				return
			}
		}
	}
}

// next yields each signal that can come at a stand, with the stands behind it.
func (h hall) next(at Stand) iter.Seq2[int, Stand] {
	return func(yield func(int, Stand) bool) {
		for signal := range Back + 1 {
			for next := range h.behind(at, signal) {
				if !yield(signal, next) {
					return
				}
			}
		}
	}
}

// canBe has all stands that can be.
func (h hall) canBe() places {
	var can places
	var run func(at Stand)
	run = func(at Stand) {
		can.add(at)
		for _, next := range h.next(at) {
			if !can.has(next) {
				run(next)
			}
		}
	}
	run(Stand{})
	return can
}

// way returns the signals of a shortest run to a stand that is wanted, of several the least ones; false, if none of these can be.
func (h hall) way(wanted func(Stand) bool) (way []int, ok bool) {
	if wanted(Stand{}) {
		return nil, true
	}
	ways := map[Stand][]int{{}: nil}
	// A group has all stands of one way, as which signal is the next one of the least way is asked of all of them.
	groups := [][]Stand{{{}}}
search:
	for len(groups) > 0 {
		for signal := range Back + 1 {
			group := h.group(groups[0], signal, ways)
			if i := slices.IndexFunc(group, wanted); i >= 0 {
				way, ok = ways[group[i]], true
				break search
			}
			if len(group) > 0 {
				groups = append(groups, group)
			}
		}
		groups = groups[1:]
	}
	return way, ok
}

// group returns the stands behind the signal to which there is no way yet, and adds their ways.
func (h hall) group(before []Stand, signal int, ways map[Stand][]int) []Stand {
	var group []Stand
	for _, at := range before {
		for next := range h.behind(at, signal) {
			if _, known := ways[next]; !known {
				ways[next] = append(slices.Clone(ways[at]), signal)
				group = append(group, next)
			}
		}
	}
	return group
}

// ends has the stands behind all runs that have the signals of the log, in this order, and at most so many others.
func (h hall) ends(log []int, lost int) places {
	// The element n is for the runs with n others.
	by := make([]places, lost+1)
	by[0].add(Stand{})
	h.lose(by)
	for _, signal := range log {
		for n, at := range by {
			by[n] = h.led(at, signal)
		}
		h.lose(by)
	}
	var ends places
	for _, at := range by {
		ends = ends.or(at)
	}
	return ends
}

// lose adds the stands behind signals that the log has not.
func (h hall) lose(by []places) {
	for n := 1; n < len(by); n++ {
		for signal := range Back + 1 {
			by[n] = by[n].or(h.led(by[n-1], signal))
		}
	}
}

// led has the stands behind the signal at some stand of these.
func (h hall) led(from places, signal int) places {
	var to places
	for at := range from.all() {
		for next := range h.behind(at, signal) {
			to.add(next)
		}
	}
	return to
}
