package cycle_test

import (
	"math"
	"slices"
	"testing"

	"kingpin/api"
	"kingpin/cycle"
)

const (
	front  = cycle.Front
	gate   = cycle.Gate
	behind = cycle.Behind
	walk   = cycle.Walk
	back   = cycle.Back
)

func step(from, to, signal int) cycle.Step {
	return cycle.Step{From: from, To: to, Signal: signal}
}

func steps(list ...cycle.Step) []cycle.Step { return list }

func lock(signal, at int) cycle.Lock { return cycle.Lock{Signal: signal, At: at} }

func locks(list ...cycle.Lock) []cycle.Lock { return list }

func at(state, spot int) cycle.Stand { return cycle.Stand{State: state, Spot: spot} }

func stands(list ...cycle.Stand) []cycle.Stand { return list }

func signals(list ...int) []int { return list }

// machine has no Running states and no locks.
func machine(states int, list ...cycle.Step) cycle.Machine {
	return cycle.Machine{States: states, Steps: list}
}

// runs is the machine, running in these states.
func runs(m cycle.Machine, states ...int) cycle.Machine {
	m.Running = states
	return m
}

// with is the machine with locks more.
func with(m cycle.Machine, list ...cycle.Lock) cycle.Machine {
	m.Locks = append(slices.Clone(m.Locks), list...)
	return m
}

// open is the machine of the chapter's examples, without its locks.
func open() cycle.Machine {
	return runs(machine(3, step(0, 1, 0), step(1, 2, 1), step(2, 0, 2)), 1, 2)
}

// setter is the machine of the chapter's examples.
func setter() cycle.Machine { return with(open(), lock(0, behind), lock(walk, 1)) }

func everywhere(states int) []cycle.Stand {
	var list []cycle.Stand
	for state := range states {
		list = append(list, at(state, front), at(state, gate), at(state, behind))
	}
	return list
}

// without are the stands but these.
func without(list []cycle.Stand, others ...cycle.Stand) []cycle.Stand {
	return slices.DeleteFunc(slices.Clone(list), func(s cycle.Stand) bool { return slices.Contains(others, s) })
}

// The chapter's section Examples, and the fifth one of the document.
func TestExamples(t *testing.T) {
	m := setter()
	if list := mustStands(t, m); !slices.Equal(list, without(everywhere(3), at(1, behind))) {
		t.Errorf("Stands: %v", list)
	}
	if way, safe := dangerOf(t, m); safe || !slices.Equal(way, signals(0, 1, walk, walk)) {
		t.Errorf("Danger: %v, %v", way, safe)
	}
	if list, ok := locksOf(t, m); !ok || !slices.Equal(list, locks(lock(0, behind), lock(walk, 1), lock(walk, 2))) {
		t.Errorf("Locks: %v, %v", list, ok)
	}
	if list, ok := endsOf(t, m, signals(0, 2), 1); !ok || !slices.Equal(list, stands(at(0, front))) {
		t.Errorf("Ends of 0, 2: %v, %v", list, ok)
	}
	if list, ok := endsOf(t, m, signals(2), 1); ok {
		t.Errorf("Ends of 2: %v", list)
	}
	if front != 0 || gate != 1 || behind != 2 || walk != 6 || back != 7 {
		t.Error("the spots or signals have other numbers")
	}
}

// P5.1: the ends of what a machine may be, and what lies just behind them.
func TestCheckMachine(t *testing.T) {
	all := runs(machine(8, step(0, 0, 0), step(7, 7, 5), step(0, 7, 5), step(7, 0, 0), step(7, 0, 0)), 0, 1, 2, 3, 4, 5, 6, 7)
	full := with(all, lock(0, front), lock(5, behind), lock(walk, 0), lock(walk, 7), lock(back, 0), lock(back, 7), lock(back, 7))
	stepped := func(n int) cycle.Machine { return machine(1, make([]cycle.Step, n)...) }
	locked := func(n int) cycle.Machine { return with(machine(1), make([]cycle.Lock, n)...) }
	for _, x := range []struct {
		m    cycle.Machine
		want api.Errno
	}{
		{cycle.Machine{}, api.ErrArg}, {machine(1), api.OK}, {machine(8), api.OK}, {machine(9), api.ErrArg}, {machine(-1), api.ErrArg}, {machine(math.MinInt), api.ErrArg}, {machine(math.MaxInt), api.ErrArg}, {all, api.OK}, {full, api.OK},
		{stepped(24), api.OK}, {stepped(25), api.ErrLimit}, {locked(40), api.OK}, {locked(41), api.ErrLimit},
		{machine(3, step(2, 2, 0)), api.OK}, {machine(3, step(3, 0, 0)), api.ErrArg}, {machine(3, step(0, 3, 0)), api.ErrArg}, {machine(3, step(-1, 0, 0)), api.ErrArg}, {machine(3, step(0, -1, 0)), api.ErrArg},
		{machine(3, step(0, 0, 5)), api.OK}, {machine(3, step(0, 0, walk)), api.ErrArg}, {machine(3, step(0, 0, back)), api.ErrArg}, {machine(3, step(0, 0, -1)), api.ErrArg}, {machine(3, step(0, 0, 0), step(0, 0, walk)), api.ErrArg},
		{runs(machine(3), 2), api.OK}, {runs(machine(3), 0, 2), api.OK}, {runs(machine(3), 3), api.ErrArg}, {runs(machine(3), -1), api.ErrArg}, {runs(machine(3), -1, 0), api.ErrArg}, {runs(machine(3), 1, 1), api.ErrArg}, {runs(machine(3), 1, 0), api.ErrArg}, {runs(machine(3), 0, 1, 1), api.ErrArg}, {runs(machine(3), 0, 2, 1), api.ErrArg}, {runs(machine(3), 0, 1, 3), api.ErrArg},
		{with(machine(8), lock(0, behind)), api.OK}, {with(machine(8), lock(0, 3)), api.ErrArg}, {with(machine(8), lock(5, 3)), api.ErrArg}, {with(machine(8), lock(0, -1)), api.ErrArg}, {with(machine(1), lock(5, behind)), api.OK},
		{with(machine(8), lock(walk, 7)), api.OK}, {with(machine(8), lock(back, 7)), api.OK}, {with(machine(2), lock(walk, 2)), api.ErrArg}, {with(machine(2), lock(back, 2)), api.ErrArg}, {with(machine(2), lock(walk, -1)), api.ErrArg}, {with(machine(8), lock(back, 8)), api.ErrArg},
		{with(machine(8), lock(8, 0)), api.ErrArg}, {with(machine(8), lock(-1, 0)), api.ErrArg}, {with(full, lock(8, 0)), api.ErrArg}, {with(full, lock(3, 3)), api.ErrArg},
	} {
		if e := cycle.CheckMachine(x.m); e != x.want {
			t.Errorf("CheckMachine of %v: %v, not %v", x.m, e, x.want)
		}
	}
}

// P5.1: by hand.
func TestStands(t *testing.T) {
	round := machine(2, step(0, 1, 3), step(1, 0, 4))
	for _, x := range []struct {
		m    cycle.Machine
		want []cycle.Stand
	}{
		// A machine of one state, without steps, and with one that leads nowhere else.
		{machine(1), everywhere(1)}, {machine(1, step(0, 0, 0)), everywhere(1)}, {runs(machine(1), 0), everywhere(1)}, {with(machine(1), lock(walk, 0)), stands(at(0, front))}, {with(machine(1), lock(back, 0)), everywhere(1)},
		// States without steps to them, or only from such as cannot be.
		{machine(8), everywhere(1)}, {machine(3, step(1, 2, 0), step(2, 1, 0), step(1, 0, 0)), everywhere(1)}, {machine(3, step(0, 2, 5)), slices.Concat(everywhere(1), stands(at(2, front), at(2, gate), at(2, behind)))},
		// Several steps by one signal.
		{machine(4, step(0, 1, 0), step(0, 2, 0), step(0, 2, 0), step(2, 3, 0)), everywhere(4)}, {with(machine(3, step(0, 1, 0), step(0, 2, 0)), lock(walk, 0), lock(walk, 1)), stands(at(0, front), at(1, front), at(2, front), at(2, gate), at(2, behind))},
		// Locks of the signals of the machine look at the spot, and only at theirs.
		{with(round, lock(3, front)), everywhere(2)}, {with(round, lock(3, front), lock(3, gate)), everywhere(2)}, {with(round, lock(3, front), lock(3, gate), lock(3, behind)), everywhere(1)}, {with(round, lock(4, front), lock(4, gate), lock(4, behind)), everywhere(2)},
		{with(round, lock(3, front), lock(walk, 0)), stands(at(0, front))}, {with(round, lock(3, gate), lock(walk, 1)), everywhere(2)}, {with(round, lock(3, gate), lock(3, behind), lock(walk, 1)), without(everywhere(2), at(1, gate), at(1, behind))},
		// Locks of Walk and Back look at the state.
		{with(round, lock(walk, 0)), everywhere(2)}, {with(round, lock(walk, 0), lock(4, gate), lock(4, behind)), without(everywhere(2), at(0, gate), at(0, behind))}, {with(round, lock(walk, 0), lock(walk, 1)), stands(at(0, front), at(1, front))}, {with(round, lock(walk, 1), lock(3, front), lock(3, gate), lock(back, 1)), without(everywhere(2), at(1, front), at(1, gate))}, {with(round, lock(walk, 1), lock(3, front), lock(3, gate)), everywhere(2)},
		{with(open(), lock(0, behind), lock(walk, 1), lock(walk, 2)), without(everywhere(3), at(1, behind), at(2, behind))}, {with(open(), lock(0, front), lock(walk, 0)), stands(at(0, front))},
	} {
		if list := mustStands(t, x.m); !slices.Equal(list, x.want) {
			t.Errorf("Stands of %v: %v, not %v", x.m, list, x.want)
		}
	}
}

// P5.2: by hand; the stands that cannot be too.
func TestWay(t *testing.T) {
	// By 0 the machine goes to 1, 2 or 3: only 3 goes on to 4 by 1, the others by 2 and 4.
	fork := machine(6, step(0, 1, 0), step(0, 2, 0), step(0, 3, 0), step(1, 4, 4), step(2, 4, 2), step(3, 4, 1), step(4, 5, 5), step(2, 5, 5))
	// To 3 it is as far by 1, 0 as by 0, 1, and farther by 0, 0, 0.
	sides := machine(5, step(0, 1, 1), step(1, 3, 0), step(0, 2, 0), step(2, 3, 1), step(2, 4, 0), step(4, 3, 0))
	for _, x := range []struct {
		m    cycle.Machine
		to   cycle.Stand
		want []int
		ok   bool
	}{
		{machine(1), at(0, front), nil, true}, {machine(1), at(0, gate), signals(walk), true}, {machine(1), at(0, behind), signals(walk, walk), true}, {machine(1, step(0, 0, 0)), at(0, front), nil, true},
		{setter(), at(0, front), nil, true}, {setter(), at(2, behind), signals(0, 1, walk, walk), true}, {setter(), at(1, gate), signals(walk, 0), true}, {setter(), at(1, behind), nil, false}, {machine(2), at(1, front), nil, false}, {with(machine(1), lock(walk, 0)), at(0, gate), nil, false},
		{open(), at(1, behind), signals(0, walk, walk), true}, {open(), at(2, gate), signals(0, 1, walk), true}, {with(open(), lock(walk, 2)), at(2, gate), signals(0, walk, 1), true},
		{fork, at(4, front), signals(0, 1), true}, {fork, at(5, front), signals(0, 5), true}, {fork, at(4, gate), signals(0, 1, walk), true}, {with(fork, lock(1, front)), at(4, front), signals(0, 2), true}, {with(fork, lock(1, front), lock(2, front)), at(4, front), signals(0, 4), true}, {with(fork, lock(0, front)), at(4, front), signals(walk, 0, 1, back), true}, {with(fork, lock(0, front), lock(walk, 4)), at(4, behind), signals(walk, 0, walk, 1), true}, {with(fork, lock(0, front), lock(0, gate), lock(walk, 4)), at(4, behind), signals(walk, walk, 0, 1), true},
		{sides, at(3, front), signals(0, 1), true}, {with(sides, lock(0, front)), at(3, front), signals(1, walk, 0, back), true}, {with(sides, lock(1, front)), at(3, front), signals(0, 0, 0), true},
		// Behind as it was in front the lock is passed by Back alone.
		{with(machine(2, step(0, 1, 3)), lock(3, front), lock(3, gate)), at(1, front), signals(walk, walk, 3, back, back), true}, {with(machine(2, step(0, 1, 3)), lock(3, front), lock(3, gate), lock(back, 1)), at(1, front), nil, false},
	} {
		if way, ok := wayOf(t, x.m, x.to); !slices.Equal(way, x.want) || ok != x.ok {
			t.Errorf("Way of %v to %v: %v, %v, not %v", x.m, x.to, way, ok, x.want)
		}
	}
}

// P5.3: by hand; the dangers that cannot be too.
func TestDanger(t *testing.T) {
	// Two dangers are as far.
	two := runs(machine(3, step(0, 1, 1), step(0, 2, 0)), 1, 2)
	for _, x := range []struct {
		m    cycle.Machine
		want []int
		safe bool
	}{
		{machine(1), nil, true}, {runs(machine(1), 0), signals(walk, walk), false}, {with(runs(machine(1), 0), lock(walk, 0)), nil, true}, {with(runs(machine(1), 0), lock(back, 0)), signals(walk, walk), false}, {runs(machine(2), 1), nil, true}, {machine(2, step(0, 1, 0)), nil, true},
		{open(), signals(0, walk, walk), false}, {with(open(), lock(walk, 1)), signals(walk, walk, 0), false}, {with(open(), lock(walk, 1), lock(0, behind)), signals(0, 1, walk, walk), false}, {with(open(), lock(walk, 1), lock(walk, 2)), signals(walk, walk, 0), false}, {with(open(), lock(walk, 1), lock(walk, 2), lock(0, behind)), nil, true}, {with(open(), lock(walk, 1), lock(0, behind), lock(1, front)), signals(walk, 0, 1, walk), false},
		{two, signals(0, walk, walk), false}, {with(two, lock(walk, 2)), signals(1, walk, walk), false}, {with(two, lock(walk, 2), lock(walk, 1)), signals(walk, walk, 0), false}, {with(two, lock(walk, 2), lock(walk, 1), lock(0, behind)), signals(walk, walk, 1), false}, {with(two, lock(0, front), lock(1, front), lock(walk, 1)), signals(walk, 0, walk), false},
		// The farther danger has the less signals: the way counts first.
		{runs(machine(3, step(0, 1, 0), step(1, 2, 0)), 0), signals(walk, walk), false}, {with(runs(machine(2, step(0, 1, 5)), 0, 1), lock(walk, 0)), signals(5, walk, walk), false},
	} {
		if way, safe := dangerOf(t, x.m); !slices.Equal(way, x.want) || safe != x.safe {
			t.Errorf("Danger of %v: %v, %v, not %v", x.m, way, safe, x.want)
		}
	}
}

// P5.4: by hand; the machines that no locks serve too.
func TestLocks(t *testing.T) {
	slow := machine(2, step(0, 1, 3), step(1, 0, 4))
	fork := machine(3, step(0, 1, 0), step(0, 2, 0))
	for _, x := range []struct {
		m    cycle.Machine
		want []cycle.Lock
		ok   bool
	}{
		{machine(1), nil, true}, {machine(8), nil, true}, {runs(machine(1), 0), nil, false}, {runs(machine(2), 1), nil, true}, {open(), locks(lock(0, behind), lock(walk, 1), lock(walk, 2)), true}, {with(open(), lock(3, front), lock(walk, 0), lock(back, 2)), locks(lock(0, behind), lock(walk, 1), lock(walk, 2)), true},
		{runs(slow, 1), locks(lock(3, behind), lock(walk, 1)), true}, {runs(slow, 0), locks(lock(4, behind), lock(walk, 0)), true},
		// It always runs, or runs at the beginning and not again: in 0 nobody may walk behind, so not to the gate either, though that would be no danger.
		{runs(slow, 0, 1), nil, false}, {runs(machine(2, step(0, 1, 3)), 0), nil, false}, {runs(machine(2, step(0, 1, 3)), 1), locks(lock(3, behind), lock(walk, 1)), true},
		// By 0 it comes to run, or to stand still in 2, where one may walk behind.
		{runs(fork, 1), locks(lock(0, behind), lock(walk, 1)), true}, {runs(machine(4, step(0, 1, 0), step(1, 2, 0), step(2, 3, 0), step(3, 0, 1)), 3), locks(lock(0, behind), lock(walk, 3)), true},
		// Two signals lead from behind to the run, and another one from 1 does not.
		{runs(machine(3, step(0, 1, 1), step(0, 2, 5), step(1, 2, 0)), 2), locks(lock(0, behind), lock(5, behind), lock(walk, 2)), true},
		// A step from a danger to a danger needs no lock; nor does one that cannot come.
		{runs(machine(4, step(0, 1, 2), step(1, 2, 3), step(3, 1, 4)), 1, 2), locks(lock(2, behind), lock(walk, 1), lock(walk, 2)), true},
		// Its own locks do not keep a stand from being: all that can be without them must be.
		{with(runs(slow, 1), lock(3, front), lock(3, gate), lock(3, behind)), locks(lock(3, behind), lock(walk, 1)), true},
	} {
		if list, ok := locksOf(t, x.m); !slices.Equal(list, x.want) || ok != x.ok {
			t.Errorf("Locks of %v: %v, %v, not %v", x.m, list, ok, x.want)
		}
	}
}

// P5.5: by hand; the logs that cannot have been too.
func TestEnds(t *testing.T) {
	round, fork := machine(2, step(0, 1, 3), step(1, 0, 4)), machine(3, step(0, 1, 0), step(0, 2, 0), step(2, 2, 1))
	far := func(m cycle.Machine) cycle.Machine {
		for state := range m.States {
			m = with(m, lock(walk, state))
		}
		return m
	}
	for _, x := range []struct {
		m    cycle.Machine
		log  []int
		lost int
		want []cycle.Stand
	}{
		{machine(1), nil, 0, stands(at(0, front))}, {machine(1), nil, 1, everywhere(1)[:2]}, {machine(1), nil, 2, everywhere(1)}, {machine(1), nil, 5, everywhere(1)}, {setter(), nil, 1, stands(at(0, front), at(0, gate), at(1, front))}, {setter(), nil, 5, without(everywhere(3), at(1, behind))}, {with(machine(1), lock(walk, 0)), nil, 5, everywhere(1)[:1]},
		{machine(1), signals(walk), 0, stands(at(0, gate))}, {machine(1), signals(walk, walk), 0, stands(at(0, behind))}, {machine(1), signals(walk, back), 0, stands(at(0, front))}, {machine(1), signals(walk, walk, walk), 0, nil}, {machine(1), signals(walk, walk, walk), 1, stands(at(0, behind))}, {machine(1), signals(back), 0, nil}, {machine(1), signals(back), 1, stands(at(0, front))}, {machine(1), signals(back), 2, stands(at(0, front), at(0, gate))}, {machine(1), signals(back, back, back), 2, nil}, {machine(1), signals(back, back, back), 3, stands(at(0, front))}, {machine(1), signals(0), 5, nil},
		// What is lost may be before the log, in it and behind it.
		{far(round), signals(4), 0, nil}, {far(round), signals(4), 1, stands(at(0, front))}, {far(round), signals(4), 2, stands(at(0, front), at(1, front))}, {far(round), signals(3, 3), 0, nil}, {far(round), signals(3, 3), 1, stands(at(1, front))}, {far(round), signals(3), 1, stands(at(0, front), at(1, front))}, {far(round), signals(4, 4, 4), 2, nil}, {far(round), signals(4, 4, 4), 3, stands(at(0, front))},
		// Several others, one behind the other, in one place.
		{far(machine(5, step(0, 1, 0), step(1, 2, 1), step(2, 3, 2), step(3, 4, 3))), signals(0, 3), 2, stands(at(4, front))}, {with(machine(5, step(0, 1, 0), step(1, 2, 1), step(2, 3, 2), step(3, 4, 3)), lock(3, front), lock(walk, 0)), signals(0, 3), 3, stands(at(4, gate))},
		// One signal may lead to several states.
		{fork, signals(0), 0, stands(at(1, front), at(2, front))}, {fork, signals(0, 1), 0, stands(at(2, front))}, {fork, signals(0, 1, 1, 1), 0, stands(at(2, front))}, {fork, signals(0, walk, 1), 0, stands(at(2, gate))}, {fork, signals(1, 1), 0, nil}, {far(fork), signals(1, 1), 1, stands(at(2, front))}, {fork, signals(0, 0), 5, nil},
		// As many signals as a log may have, and as many lost as may be.
		{far(round), slices.Repeat(signals(3, 4), 10), 0, stands(at(0, front))}, {far(round), slices.Repeat(signals(3, 4), 10), 1, stands(at(0, front), at(1, front))}, {machine(1), make([]int, 20), 5, nil}, {machine(1, step(0, 0, 0)), make([]int, 20), 0, stands(at(0, front))}, {machine(1, step(0, 0, 0)), make([]int, 20), 5, everywhere(1)},
		{setter(), signals(walk, walk, 0), 0, nil}, {setter(), signals(walk, walk, 0), 1, stands(at(1, gate))}, {setter(), signals(walk, walk, 0), 2, stands(at(1, front), at(1, gate), at(2, gate))},
	} {
		if list, ok := endsOf(t, x.m, x.log, x.lost); !slices.Equal(list, x.want) || ok != (len(x.want) > 0) {
			t.Errorf("Ends of %v, %v, %d: %v, %v, not %v", x.m, x.log, x.lost, list, ok, x.want)
		}
	}
}

// P5.5: by hand; with machines, signals and stands that are not valid.
func TestProveRun(t *testing.T) {
	fork := machine(4, step(0, 1, 0), step(0, 2, 0), step(1, 3, 1))
	for _, x := range []struct {
		m       cycle.Machine
		signals []int
		to      cycle.Stand
		want    bool
	}{
		{machine(1), nil, at(0, front), true}, {machine(1), nil, at(0, gate), false}, {setter(), nil, at(0, front), true}, {setter(), nil, at(1, front), false},
		{setter(), signals(0, 1, walk, walk), at(2, behind), true}, {setter(), signals(0, 1, walk, walk), at(2, gate), false}, {setter(), signals(0, 1, walk, walk), at(1, behind), false}, {setter(), signals(0, walk), at(1, gate), false}, {setter(), signals(walk, walk, 0), at(1, behind), false}, {open(), signals(walk, walk, 0), at(1, behind), true}, {setter(), signals(1), at(0, front), false},
		{fork, signals(0), at(1, front), true}, {fork, signals(0), at(2, front), true}, {fork, signals(0), at(3, front), false}, {fork, signals(0, 1), at(3, front), true}, {fork, signals(0, 1), at(2, front), false},
		// A run need not be short, nor of as many signals as a log.
		{machine(1), slices.Repeat(signals(walk, back), 5000), at(0, front), true}, {machine(1), slices.Repeat(signals(walk, back), 5000), at(0, gate), false}, {machine(1), append(slices.Repeat(signals(walk, back), 5000), back), at(0, front), false}, {machine(1, step(0, 0, 0)), make([]int, 100000), at(0, front), true},
		{machine(1), signals(8), at(0, front), false}, {machine(1), signals(-1), at(0, front), false}, {machine(1), signals(walk, 9), at(0, gate), false}, {machine(1), signals(math.MaxInt), at(0, front), false}, {machine(1), signals(math.MinInt), at(0, front), false},
		{machine(1), nil, at(0, 3), false}, {machine(1), nil, at(0, -1), false}, {machine(1), nil, at(1, front), false}, {machine(1), nil, at(8, front), false}, {machine(1), nil, at(-1, front), false}, {machine(1), nil, at(math.MaxInt, math.MinInt), false}, {machine(1), nil, at(math.MinInt, math.MaxInt), false},
		{machine(0), nil, at(0, front), false}, {machine(9), nil, at(0, front), false}, {runs(machine(2), 1, 0), nil, at(0, front), false}, {machine(1, make([]cycle.Step, 24)...), nil, at(0, front), true}, {machine(1, make([]cycle.Step, 25)...), nil, at(0, front), false}, {with(machine(1), make([]cycle.Lock, 41)...), nil, at(0, front), false}, {with(machine(1), lock(0, 3)), nil, at(0, front), false}, {machine(1, step(0, 1, 0)), nil, at(0, front), false},
	} {
		if is := cycle.ProveRun(x.m, x.signals, x.to); is != x.want {
			t.Errorf("ProveRun of %v, %v to %v: %v", x.m, x.signals[:min(len(x.signals), 20)], x.to, is)
		}
	}
}
