package cycle_test

import (
	"math/rand"
	"slices"
	"testing"

	"kingpin/api"
	"kingpin/cycle"
)

// The slow model: by the words of the chapter, and nothing of the package.

func forbids(l cycle.Lock, s cycle.Stand, signal int) bool {
	if signal == walk || signal == back {
		return l.Signal == signal && l.At == s.State
	}
	return l.Signal == signal && l.At == s.Spot
}

// nextOf are the stands behind a signal at a stand.
func nextOf(m cycle.Machine, s cycle.Stand, signal int) []cycle.Stand {
	if slices.ContainsFunc(m.Locks, func(l cycle.Lock) bool { return forbids(l, s, signal) }) {
		return nil
	}
	switch {
	case signal == walk && s.Spot == front:
		return stands(at(s.State, gate))
	case signal == walk && s.Spot == gate:
		return stands(at(s.State, behind))
	case signal == back && s.Spot == behind:
		return stands(at(s.State, gate))
	case signal == back && s.Spot == gate:
		return stands(at(s.State, front))
	}
	var list []cycle.Stand
	for _, x := range m.Steps {
		if next := at(x.To, s.Spot); x.From == s.State && x.Signal == signal && !slices.Contains(list, next) {
			list = append(list, next)
		}
	}
	return list
}

func allNext(m cycle.Machine, s cycle.Stand) []cycle.Stand {
	var list []cycle.Stand
	for signal := range 8 {
		list = append(list, nextOf(m, s, signal)...)
	}
	return list
}

func isDanger(m cycle.Machine, s cycle.Stand) bool {
	return s.Spot == behind && slices.Contains(m.Running, s.State)
}

func compare(a, b cycle.Stand) int {
	if a.State != b.State {
		return a.State - b.State
	}
	return a.Spot - b.Spot
}

// sorted are the stands in their order, each once.
func sorted(list []cycle.Stand) []cycle.Stand {
	list = slices.Clone(list)
	slices.SortFunc(list, compare)
	return slices.Compact(list)
}

// farOf are, for each number of signals, the stands that can be and are as far.
func farOf(m cycle.Machine) [][]cycle.Stand {
	far := [][]cycle.Stand{stands(at(0, front))}
	known := slices.Clone(far[0])
	for {
		var farther []cycle.Stand
		for _, s := range far[len(far)-1] {
			for _, next := range allNext(m, s) {
				if !slices.Contains(known, next) {
					known, farther = append(known, next), append(farther, next)
				}
			}
		}
		if len(farther) == 0 {
			return far
		}
		far = append(far, farther)
	}
}

func plainStands(m cycle.Machine) []cycle.Stand { return sorted(slices.Concat(farOf(m)...)) }

// behindSignals are all stands to which runs with these signals lead.
func behindSignals(m cycle.Machine, list []int) []cycle.Stand {
	ends := stands(at(0, front))
	for _, signal := range list {
		var next []cycle.Stand
		for _, s := range ends {
			next = append(next, nextOf(m, s, signal)...)
		}
		ends = sorted(next)
	}
	return ends
}

type led struct {
	signals []int
	ends    []cycle.Stand
}

// plainWay goes through all lists of signals, by rising lists of as many: of those that lead to the same stands only the first one is gone on from.
func plainWay(m cycle.Machine, wanted func(cycle.Stand) bool) ([]int, bool) {
	var known [][]cycle.Stand
	list := []led{{nil, stands(at(0, front))}}
	for len(list) > 0 {
		var longer []led
		for _, x := range list {
			if slices.ContainsFunc(x.ends, wanted) {
				return x.signals, true
			}
			if slices.ContainsFunc(known, func(k []cycle.Stand) bool { return slices.Equal(k, x.ends) }) {
				continue
			}
			known = append(known, x.ends)
			for signal := range 8 {
				var next []cycle.Stand
				for _, s := range x.ends {
					next = append(next, nextOf(m, s, signal)...)
				}
				if len(next) > 0 {
					longer = append(longer, led{append(slices.Clone(x.signals), signal), sorted(next)})
				}
			}
		}
		list = longer
	}
	return nil, false
}

func plainDanger(m cycle.Machine) ([]int, bool) {
	return plainWay(m, func(s cycle.Stand) bool { return isDanger(m, s) })
}

func isSafe(m cycle.Machine) bool {
	return !slices.ContainsFunc(plainStands(m), func(s cycle.Stand) bool { return isDanger(m, s) })
}

// harmless are the stands that can be without any locks, and are no danger.
func harmless(m cycle.Machine) []cycle.Stand {
	return slices.DeleteFunc(plainStands(unlocked(m)), func(s cycle.Stand) bool { return isDanger(m, s) })
}

func unlocked(m cycle.Machine) cycle.Machine {
	m.Locks = nil
	return m
}

// serves tells whether these locks serve the machine.
func serves(m cycle.Machine, list []cycle.Lock) bool {
	n := with(unlocked(m), list...)
	return isSafe(n) && subset(harmless(m), plainStands(n))
}

func subset(list, of []cycle.Stand) bool {
	return !slices.ContainsFunc(list, func(s cycle.Stand) bool { return !slices.Contains(of, s) })
}

// locksFor are all locks that a machine may have for these signals, in their order.
func locksFor(m cycle.Machine, list ...int) []cycle.Lock {
	var all []cycle.Lock
	for _, signal := range list {
		for i := range 3 {
			all = append(all, lock(signal, i))
		}
	}
	for _, signal := range signals(walk, back) {
		for i := range m.States {
			all = append(all, lock(signal, i))
		}
	}
	return all
}

func allLocks(m cycle.Machine) []cycle.Lock { return locksFor(m, 0, 1, 2, 3, 4, 5) }

// hasInOrder tells whether the run has the signals of the log in their order.
func hasInOrder(run, log []int) bool {
	i := 0
	for _, signal := range run {
		if i < len(log) && signal == log[i] {
			i++
		}
	}
	return i == len(log)
}

// plainEnds goes through all runs, signal by signal and stand by stand.
func plainEnds(m cycle.Machine, log []int, lost int) []cycle.Stand {
	var ends []cycle.Stand
	var follow func(run []int, s cycle.Stand)
	follow = func(run []int, s cycle.Stand) {
		if hasInOrder(run, log) {
			ends = append(ends, s)
		}
		for signal := 0; signal < 8 && len(run) < len(log)+lost; signal++ {
			for _, next := range nextOf(m, s, signal) {
				follow(append(slices.Clone(run), signal), next)
			}
		}
	}
	follow(nil, at(0, front))
	return sorted(ends)
}

// someMachine is a machine by chance, with at most as many states, steps, signals and locks.
func someMachine(r *rand.Rand, states, steps, signals, locks int) cycle.Machine {
	m := machine(1 + r.Intn(states))
	for range r.Intn(steps + 1) {
		m.Steps = append(m.Steps, someStep(r, m, signals))
	}
	for state := range m.States {
		if r.Intn(3) == 0 {
			m.Running = append(m.Running, state)
		}
	}
	for range r.Intn(locks + 1) {
		m.Locks = append(m.Locks, someLock(r, m))
	}
	return m
}

func someStep(r *rand.Rand, m cycle.Machine, signals int) cycle.Step {
	return step(r.Intn(m.States), r.Intn(m.States), r.Intn(signals))
}

func someLock(r *rand.Rand, m cycle.Machine) cycle.Lock {
	all := allLocks(m)
	return all[r.Intn(len(all))]
}

// someRun is a run by chance, of at most as many signals, and the stands behind each of them.
func someRun(r *rand.Rand, m cycle.Machine, most int) ([]int, []cycle.Stand) {
	var run []int
	way := stands(at(0, front))
	for range r.Intn(most + 1) {
		signal := r.Intn(8)
		next := nextOf(m, way[len(way)-1], signal)
		if len(next) > 0 {
			run, way = append(run, signal), append(way, next[r.Intn(len(next))])
		}
	}
	return run, way
}

func mustStands(t *testing.T, m cycle.Machine) []cycle.Stand {
	t.Helper()
	list, e := cycle.Stands(m)
	if e != api.OK {
		t.Fatalf("Stands of %v: %v", m, e)
	}
	return list
}

// wayOf tells too whether there is one.
func wayOf(t *testing.T, m cycle.Machine, to cycle.Stand) ([]int, bool) {
	t.Helper()
	way, e := cycle.Way(m, to)
	if e != api.OK && (e != api.ErrFail || len(way) > 0) {
		t.Fatalf("Way of %v to %v: %v, %v", m, to, way, e)
	}
	return way, e == api.OK
}

// dangerOf tells too whether the machine is safe.
func dangerOf(t *testing.T, m cycle.Machine) ([]int, bool) {
	t.Helper()
	way, e := cycle.Danger(m)
	if e != api.OK && (e != api.ErrNone || len(way) > 0) {
		t.Fatalf("Danger of %v: %v, %v", m, way, e)
	}
	return way, e != api.OK
}

// locksOf tells too whether some serve.
func locksOf(t *testing.T, m cycle.Machine) ([]cycle.Lock, bool) {
	t.Helper()
	list, e := cycle.Locks(m)
	if e != api.OK && (e != api.ErrFail || len(list) > 0) {
		t.Fatalf("Locks of %v: %v, %v", m, list, e)
	}
	return list, e == api.OK
}

// endsOf tells too whether the log can have been.
func endsOf(t *testing.T, m cycle.Machine, log []int, lost int) ([]cycle.Stand, bool) {
	t.Helper()
	list, e := cycle.Ends(m, log, lost)
	if e != api.OK && (e != api.ErrLock || len(list) > 0) {
		t.Fatalf("Ends of %v, %v, %d: %v, %v", m, log, lost, list, e)
	}
	return list, e == api.OK
}
