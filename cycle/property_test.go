package cycle_test

import (
	"iter"
	"math/rand"
	"slices"
	"testing"

	"kingpin/cycle"
)

// some visits machines by chance.
func some(seed int64, times, states, steps, signals, locks int, visit func(r *rand.Rand, m cycle.Machine)) {
	r := rand.New(rand.NewSource(seed))
	for range times {
		visit(r, someMachine(r, states, steps, signals, locks))
	}
}

// P5.1 to P5.3: what can be, how far it is, and by which signals.
func TestRuns(t *testing.T) {
	var count [5]int
	some(1, 1500, 8, 24, 6, 12, func(r *rand.Rand, m cycle.Machine) {
		can := plainStands(m)
		if list := mustStands(t, m); !slices.Equal(list, can) {
			t.Fatalf("Stands of %v: %v, not %v", m, list, can)
		}
		for _, to := range everywhere(m.States) {
			way, ok := wayOf(t, m, to)
			want, is := plainWay(m, func(s cycle.Stand) bool { return s == to })
			if ok != is || ok != slices.Contains(can, to) || !slices.Equal(way, want) {
				t.Fatalf("Way of %v to %v: %v, %v, not %v, %v", m, to, way, ok, want, is)
			}
			if ok {
				count[min(len(way)/2, 3)]++
			}
		}
		way, safe := dangerOf(t, m)
		want, is := plainDanger(m)
		if safe == is || safe != isSafe(m) || !slices.Equal(way, want) {
			t.Fatalf("Danger of %v: %v, %v, not %v, %v", m, way, safe, want, !is)
		}
		if safe {
			count[4]++
		}
	})
	if slices.Min(count[:]) < 100 {
		t.Errorf("too few of some kind: %v", count)
	}
}

// P5.2: of machines with many steps by few signals, so that one list of them leads to several stands.
func TestForks(t *testing.T) {
	several := 0
	some(2, 1500, 8, 24, 2, 4, func(r *rand.Rand, m cycle.Machine) {
		for _, to := range everywhere(m.States) {
			way, ok := wayOf(t, m, to)
			want, is := plainWay(m, func(s cycle.Stand) bool { return s == to })
			if ok != is || !slices.Equal(way, want) {
				t.Fatalf("Way of %v to %v: %v, %v, not %v, %v", m, to, way, ok, want, is)
			}
			if len(behindSignals(m, way)) > 1 {
				several++
			}
		}
	})
	if several < 1000 {
		t.Errorf("only %d ways lead to several stands", several)
	}
}

// P5.2, P5.3, P5.5: no list that is shorter, or is as long and less, is a run to the same stand.
func TestAllLists(t *testing.T) {
	some(3, 60, 5, 12, 3, 4, func(_ *rand.Rand, m cycle.Machine) {
		found := map[cycle.Stand][]int{}
		list := [][]int{nil}
		for len(list[0]) <= 4 {
			var longer [][]int
			for _, x := range list {
				for _, to := range everywhere(m.States) {
					is := cycle.ProveRun(m, x, to)
					if is != slices.Contains(behindSignals(m, x), to) {
						t.Fatalf("ProveRun of %v, %v to %v: %v", m, x, to, is)
					}
					if _, known := found[to]; is && !known {
						found[to] = x
					}
				}
				for signal := range 8 {
					if signal < 3 || signal >= walk {
						longer = append(longer, append(slices.Clone(x), signal))
					}
				}
			}
			list = longer
		}
		for _, to := range everywhere(m.States) {
			way, ok := wayOf(t, m, to)
			if want, is := found[to]; is && (!ok || !slices.Equal(way, want)) || !is && ok && len(way) <= 4 {
				t.Fatalf("Way of %v to %v: %v, %v, not %v", m, to, way, ok, want)
			}
		}
	})
}

// P5.4, P5.8: against all lists of locks that could serve: the fewest are those that all have.
func TestAllLocks(t *testing.T) {
	var count [7]int
	visit := func(signals int) func(r *rand.Rand, m cycle.Machine) {
		return func(_ *rand.Rand, m cycle.Machine) {
			var fewest, common []cycle.Lock
			served := false
			for list := range sublists(locksFor(m, []int{0, 1}[:signals]...)) {
				if !serves(m, list) {
					continue
				}
				if !served {
					fewest, common, served = list, list, true
				}
				if len(list) < len(fewest) {
					fewest = list
				}
				common = slices.DeleteFunc(slices.Clone(common), func(l cycle.Lock) bool { return !slices.Contains(list, l) })
			}
			list, ok := locksOf(t, m)
			if ok != served || !slices.Equal(list, fewest) || !slices.Equal(list, common) {
				t.Fatalf("Locks of %v: %v, %v, not %v, %v; all have %v", m, list, ok, fewest, served, common)
			}
			if !ok {
				count[6]++
			} else {
				count[len(list)]++
			}
		}
	}
	some(4, 400, 3, 6, 1, 2, visit(1))
	some(5, 300, 2, 6, 2, 2, visit(2))
	some(6, 100, 3, 6, 2, 2, visit(2))
	// A single lock never serves: it must be shut to go there while it runs, and to run while one is there.
	if count[0] < 20 || count[1] > 0 || count[2] < 20 || count[3] < 5 || count[6] < 20 {
		t.Errorf("too few of some number: %v", count)
	}
}

// sublists yields all lists of some of the locks, in their order.
func sublists(all []cycle.Lock) iter.Seq[[]cycle.Lock] {
	return func(yield func([]cycle.Lock) bool) {
		for set := range 1 << len(all) {
			var list []cycle.Lock
			for i, l := range all {
				if set>>i&1 == 1 {
					list = append(list, l)
				}
			}
			if !yield(list) {
				return
			}
		}
	}
}

// P5.5: against all runs that are short enough.
func TestAllEnds(t *testing.T) {
	var count [3]int
	some(7, 1500, 5, 10, 3, 6, func(r *rand.Rand, m cycle.Machine) {
		log, _ := someRun(r, m, 6)
		lost := r.Intn(4)
		log = log[:min(len(log), 3)]
		// Of a run some signals are not noted, and now and then another one is.
		for range r.Intn(3) {
			if len(log) > 0 {
				i := r.Intn(len(log))
				log = slices.Delete(log, i, i+1)
			}
		}
		if r.Intn(4) == 0 {
			log = append(log, r.Intn(8))
		}
		list, ok := endsOf(t, m, log, lost)
		want := plainEnds(m, log, lost)
		if !slices.Equal(list, want) || ok != (len(want) > 0) {
			t.Fatalf("Ends of %v, %v, %d: %v, %v, not %v", m, log, lost, list, ok, want)
		}
		count[min(len(want), 2)]++
	})
	if slices.Min(count[:]) < 100 {
		t.Errorf("too few of some kind: %v", count)
	}
}

// P5.5: long logs, and as many lost as may be: where the run really ended is among the ends.
func TestLongLogs(t *testing.T) {
	lossy := 0
	some(8, 1500, 8, 24, 6, 12, func(r *rand.Rand, m cycle.Machine) {
		run, way := someRun(r, m, 60)
		n := min(len(run), 25)
		end, log, lost := way[n], slices.Clone(run[:n]), 0
		for len(log) > 20 || len(log) > 0 && lost < 5 && r.Intn(3) > 0 {
			i := r.Intn(len(log))
			log, lost = slices.Delete(log, i, i+1), lost+1
		}
		list, ok := endsOf(t, m, log, lost)
		if !ok || !slices.Contains(list, end) {
			t.Fatalf("Ends of %v, %v, %d: %v, %v without %v", m, log, lost, list, ok, end)
		}
		if lost == 0 && !slices.Equal(list, behindSignals(m, log)) {
			t.Fatalf("Ends of %v, %v: %v, not %v", m, log, list, behindSignals(m, log))
		}
		if lost > 2 {
			lossy++
		}
		if !cycle.ProveRun(m, run, way[len(run)]) {
			t.Fatalf("ProveRun of %v, %v to %v: false", m, run, way[len(run)])
		}
	})
	if lossy < 100 {
		t.Errorf("only %d logs have lost much", lossy)
	}
}

// P5.6, P4: whatever comes, nobody is behind a safe machine that runs; of another the run of Danger leads there, and no shorter one.
func TestNeverBehind(t *testing.T) {
	var count [2]int
	some(9, 1500, 8, 24, 6, 30, func(r *rand.Rand, m cycle.Machine) {
		way, safe := dangerOf(t, m)
		for range 5 {
			run, been := someRun(r, m, 300)
			first := slices.IndexFunc(been, func(s cycle.Stand) bool { return isDanger(m, s) })
			if first >= 0 && (safe || first < len(way)) {
				t.Fatalf("Danger of %v: %v, %v, but %v leads to %v", m, way, safe, run[:first], been[first])
			}
		}
		if safe {
			count[0]++
			return
		}
		count[1]++
		if !slices.ContainsFunc(everywhere(m.States), func(s cycle.Stand) bool { return isDanger(m, s) && cycle.ProveRun(m, way, s) }) {
			t.Fatalf("Danger of %v: %v leads to none", m, way)
		}
		for _, nearer := range farOf(m)[:len(way)] {
			if slices.ContainsFunc(nearer, func(s cycle.Stand) bool { return isDanger(m, s) }) {
				t.Fatalf("Danger of %v: %v, but %v are nearer", m, way, nearer)
			}
		}
	})
	if slices.Min(count[:]) < 100 {
		t.Errorf("too few of some kind: %v", count)
	}
}

// P5.7: with a lock more not more can be; with a step or a Running state more not less, nor is it safer.
func TestOneMore(t *testing.T) {
	var count [3]int
	some(10, 2000, 6, 10, 3, 12, func(r *rand.Rand, m cycle.Machine) {
		can := mustStands(t, m)
		_, safe := dangerOf(t, m)
		l := with(m, someLock(r, m))
		fewer := mustStands(t, l)
		if _, still := dangerOf(t, l); !subset(fewer, can) || safe && !still {
			t.Fatalf("Stands of %v: %v, but of %v: %v", m, can, l, fewer)
		}
		s := m
		s.Steps = append(slices.Clone(m.Steps), someStep(r, m, 3))
		more := mustStands(t, s)
		if _, still := dangerOf(t, s); !subset(can, more) || !safe && still {
			t.Fatalf("Stands of %v: %v, but of %v: %v", m, can, s, more)
		}
		state := r.Intn(m.States)
		if slices.Contains(m.Running, state) {
			return
		}
		n := runs(m, append(slices.Clone(m.Running), state)...)
		slices.Sort(n.Running)
		_, still := dangerOf(t, n)
		if same := mustStands(t, n); !subset(can, same) || !safe && still {
			t.Fatalf("Stands of %v: %v, but of %v: %v", m, can, n, same)
		}
		count[0] += len(can) - len(fewer)
		count[1] += len(more) - len(can)
		if safe && !still {
			count[2]++
		}
	})
	if slices.Min(count[:]) < 100 {
		t.Errorf("too little is changed: %v", count)
	}
}

// P5.8: with the fewest locks it is safe, and all that is harmless can be; without one of them it is not safe, and whichever serve have them all.
func TestFewestLocks(t *testing.T) {
	var count [4]int
	some(11, 1500, 8, 24, 6, 12, func(r *rand.Rand, m cycle.Machine) {
		list, ok := locksOf(t, m)
		if !ok {
			count[0]++
			return
		}
		count[min(len(list)/3+1, 3)]++
		if !slices.IsSortedFunc(list, func(a, b cycle.Lock) int { return compare(at(a.Signal, a.At), at(b.Signal, b.At)) }) {
			t.Fatalf("Locks of %v: %v", m, list)
		}
		n := with(unlocked(m), list...)
		if _, safe := dangerOf(t, n); !safe || !slices.Equal(mustStands(t, n), harmless(m)) {
			t.Fatalf("Locks of %v: %v, with which %v can be", m, list, mustStands(t, n))
		}
		for i := range list {
			n.Locks = slices.Delete(slices.Clone(list), i, i+1)
			if _, safe := dangerOf(t, n); safe {
				t.Fatalf("Locks of %v: %v, but also without %v", m, list, list[i])
			}
		}
		// With other locks beside them it may be served, too; without one of them it never is.
		for range 5 {
			others := append(slices.Clone(list), someLock(r, m), someLock(r, m))
			i := r.Intn(len(others))
			others = slices.Delete(others, i, i+1)
			if serves(m, others) && slices.ContainsFunc(list, func(l cycle.Lock) bool { return !slices.Contains(others, l) }) {
				t.Fatalf("Locks of %v: %v, but %v serve", m, list, others)
			}
		}
	})
	if slices.Min(count[:]) < 100 {
		t.Errorf("too few of some number: %v", count)
	}
}

// P5.8: if no locks serve, not even some by chance do.
func TestNoneServe(t *testing.T) {
	none := 0
	some(12, 600, 4, 8, 3, 0, func(r *rand.Rand, m cycle.Machine) {
		if _, ok := locksOf(t, m); ok {
			return
		}
		none++
		all := locksFor(m, 0, 1, 2)
		for range 40 {
			r.Shuffle(len(all), func(i, j int) { all[i], all[j] = all[j], all[i] })
			if list := all[:r.Intn(len(all)+1)]; serves(m, list) {
				t.Fatalf("Locks of %v: none, but %v serve", m, list)
			}
		}
	})
	if none < 50 {
		t.Errorf("only %d are not served", none)
	}
}

// P5.9: where nothing runs, or nobody can go, it is safe.
func TestNothingRuns(t *testing.T) {
	some(13, 600, 8, 24, 6, 12, func(_ *rand.Rand, m cycle.Machine) {
		if way, safe := dangerOf(t, runs(m)); !safe {
			t.Fatalf("Danger of %v, which never runs: %v", m, way)
		}
		if list, ok := locksOf(t, runs(m)); !ok || len(list) > 0 {
			t.Fatalf("Locks of %v, which never runs: %v, %v", m, list, ok)
		}
		shut := m
		for state := range m.States {
			shut = with(shut, lock(walk, state))
		}
		if list := mustStands(t, shut); slices.ContainsFunc(list, func(s cycle.Stand) bool { return s.Spot != front }) {
			t.Fatalf("Stands of %v: %v", shut, list)
		}
		still := with(m, lock(walk, 0))
		still.Steps = slices.DeleteFunc(slices.Clone(m.Steps), func(s cycle.Step) bool { return s.From == 0 })
		// The steps from 0 are there, but none of them can come.
		stuck := with(m, lock(walk, 0))
		for signal := range 6 {
			stuck = with(stuck, lock(signal, front))
		}
		for _, n := range []cycle.Machine{still, stuck} {
			if _, safe := dangerOf(t, n); !safe || !slices.Equal(mustStands(t, n), stands(at(0, front))) {
				t.Fatalf("Stands of %v: %v", n, mustStands(t, n))
			}
		}
	})
}

// P5.10: each prefix of a way leads to a stand that can be, and to which the way is not longer.
func TestPrefixes(t *testing.T) {
	long := 0
	some(14, 600, 8, 24, 6, 12, func(_ *rand.Rand, m cycle.Machine) {
		can := mustStands(t, m)
		for _, to := range can {
			way, _ := wayOf(t, m, to)
			for n := range way {
				near := func(s cycle.Stand) bool {
					shorter, ok := wayOf(t, m, s)
					return ok && len(shorter) <= n && cycle.ProveRun(m, way[:n], s)
				}
				if !slices.ContainsFunc(can, near) {
					t.Fatalf("Way of %v to %v: %v, but %v leads to none that is near", m, to, way, way[:n])
				}
			}
			if !cycle.ProveRun(m, way, to) {
				t.Fatalf("Way of %v to %v: %v is no run there", m, to, way)
			}
			if len(way) > 5 {
				long++
			}
		}
	})
	if long < 100 {
		t.Errorf("only %d ways are long", long)
	}
}

// P5.11: with one more lost the ends are not fewer; of the empty log they are what is as far.
func TestLost(t *testing.T) {
	more := 0
	some(15, 800, 8, 24, 6, 12, func(r *rand.Rand, m cycle.Machine) {
		log, _ := someRun(r, m, 20)
		far := farOf(m)
		var fewer, near []cycle.Stand
		for lost := range 6 {
			list, ok := endsOf(t, m, log, lost)
			if !subset(fewer, list) || !ok {
				t.Fatalf("Ends of %v, %v, %d: %v, but with fewer lost %v", m, log, lost, list, fewer)
			}
			more += len(list) - len(fewer)
			fewer = list
			if lost < len(far) {
				near = append(near, far[lost]...)
			}
			if list, ok := endsOf(t, m, nil, lost); !ok || !slices.Equal(list, sorted(near)) {
				t.Fatalf("Ends of %v, nothing, %d: %v, %v, not %v", m, lost, list, ok, near)
			}
		}
	})
	if more < 1000 {
		t.Errorf("only %d ends are more", more)
	}
}

// renamed is the machine with other numbers of its states.
func renamed(m cycle.Machine, names []int) cycle.Machine {
	n := machine(m.States)
	for _, s := range m.Steps {
		n.Steps = append(n.Steps, step(names[s.From], names[s.To], s.Signal))
	}
	for _, state := range m.Running {
		n.Running = append(n.Running, names[state])
	}
	slices.Sort(n.Running)
	for _, l := range m.Locks {
		if l.Signal >= walk {
			l.At = names[l.At]
		}
		n.Locks = append(n.Locks, l)
	}
	return n
}

func renamedStands(list []cycle.Stand, names []int) []cycle.Stand {
	var others []cycle.Stand
	for _, s := range list {
		others = append(others, at(names[s.State], s.Spot))
	}
	return sorted(others)
}

// P5.12: with other numbers of the states but 0 it is the same.
func TestNames(t *testing.T) {
	some(16, 1200, 8, 24, 6, 12, func(r *rand.Rand, m cycle.Machine) {
		names := []int{0}
		for _, i := range r.Perm(m.States - 1) {
			names = append(names, i+1)
		}
		n := renamed(m, names)
		can := mustStands(t, m)
		if list := mustStands(t, n); !slices.Equal(list, renamedStands(can, names)) {
			t.Fatalf("Stands of %v: %v, but of %v: %v", m, can, n, list)
		}
		way, safe := dangerOf(t, m)
		if other, same := dangerOf(t, n); safe != same || !slices.Equal(way, other) {
			t.Fatalf("Danger of %v: %v, but of %v: %v", m, way, n, other)
		}
		few, ok := locksOf(t, m)
		if others, same := locksOf(t, n); ok != same || len(few) != len(others) {
			t.Fatalf("Locks of %v: %v, but of %v: %v", m, few, n, others)
		}
		log, _ := someRun(r, m, 20)
		ends, _ := endsOf(t, m, log, 1)
		if others, _ := endsOf(t, n, log, 1); !slices.Equal(others, renamedStands(ends, names)) {
			t.Fatalf("Ends of %v, %v: %v, but of %v: %v", m, log, ends, n, others)
		}
	})
}

// P7: steps and locks tell the same in any order, also if some come twice.
func TestAnyOrder(t *testing.T) {
	some(17, 800, 8, 12, 6, 20, func(r *rand.Rand, m cycle.Machine) {
		n := m
		n.Steps, n.Locks = slices.Repeat(m.Steps, 2), slices.Repeat(m.Locks, 2)
		r.Shuffle(len(n.Steps), func(i, j int) { n.Steps[i], n.Steps[j] = n.Steps[j], n.Steps[i] })
		r.Shuffle(len(n.Locks), func(i, j int) { n.Locks[i], n.Locks[j] = n.Locks[j], n.Locks[i] })
		log, _ := someRun(r, m, 20)
		for _, to := range everywhere(m.States) {
			x, y := asked{m, to, log, 2}, asked{n, to, log, 2}
			if !x.sameAs(y) {
				t.Fatalf("%v, but of %v: %v", x.calls(), n, y.calls())
			}
		}
	})
}
