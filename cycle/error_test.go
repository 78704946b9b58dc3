package cycle_test

import (
	"math"
	"math/rand"
	"reflect"
	"slices"
	"testing"

	"kingpin/api"
	"kingpin/cycle"
)

// asked is all that calls may be given.
type asked struct {
	cycle.Machine
	to   cycle.Stand
	log  []int
	lost int
}

type answer struct {
	e      api.Errno
	result any
}

func (x asked) calls() map[string]answer {
	can, e1 := cycle.Stands(x.Machine)
	way, e2 := cycle.Way(x.Machine, x.to)
	danger, e3 := cycle.Danger(x.Machine)
	locks, e4 := cycle.Locks(x.Machine)
	ends, e5 := cycle.Ends(x.Machine, x.log, x.lost)
	return map[string]answer{
		"CheckMachine": {cycle.CheckMachine(x.Machine), nil},
		"Stands":       {e1, can},
		"Way":          {e2, way},
		"Danger":       {e3, danger},
		"Locks":        {e4, locks},
		"Ends":         {e5, ends},
		"ProveRun":     {api.OK, cycle.ProveRun(x.Machine, x.log, x.to)},
	}
}

func (x asked) sameAs(y asked) bool { return reflect.DeepEqual(x.calls(), y.calls()) }

// wantErrors asks all calls: the named ones have the error, and no result; the others have none.
func (x asked) wantErrors(t *testing.T, want api.Errno, calls ...string) {
	t.Helper()
	for call, a := range x.calls() {
		expected := api.OK
		if slices.Contains(calls, call) {
			expected = want
		}
		if a.e != expected {
			t.Errorf("%s of %v: %v, not %v", call, x, a.e, expected)
		}
		if v := reflect.ValueOf(a.result); a.e != api.OK && a.result != nil && v.Len() > 0 {
			t.Errorf("%s of %v: %v with %v", call, x, a.result, a.e)
		}
	}
}

var allCalls = []string{"CheckMachine", "Stands", "Way", "Danger", "Locks", "Ends"}

// good has no error in any call, and its log is a run to its stand.
func good() asked { return asked{setter(), at(2, behind), signals(0, 1, walk, walk), 2} }

// bad is a machine with which nothing else is as it should be.
func bad(m cycle.Machine) asked { return asked{m, at(-1, 3), make([]int, 21), -1} }

func edges() []int {
	return []int{math.MinInt, math.MinInt + 1, -2, -1, 8, 9, math.MaxInt - 1, math.MaxInt}
}

func badMachines() []cycle.Machine {
	list := []cycle.Machine{{}, runs(open(), 2, 1), runs(open(), 1, 1), runs(open(), 1, 3), with(open(), lock(0, 3)), with(open(), lock(5, 3)), with(open(), lock(walk, 3)), with(open(), lock(back, 3)), runs(open(), math.MinInt, math.MaxInt)}
	for _, n := range edges() {
		if n != 8 {
			list = append(list, machine(n), runs(machine(n, step(0, 0, 0)), 0))
		}
		list = append(list, machine(8, step(n, 0, 0)), machine(8, step(0, n, 0)), machine(8, step(0, 0, n)), machine(8, step(0, 0, 0), step(1, 1, n)), runs(machine(8), n), runs(machine(8), n, 7), runs(machine(8), 0, n), with(machine(8), lock(n, 0)), with(machine(8), lock(n, n)))
		for signal := range 8 {
			list = append(list, with(machine(8), lock(signal, n)))
		}
	}
	return list
}

// The section Errors, R1 and R2: the first question that applies, and no other results.
func TestErrors(t *testing.T) {
	good().wantErrors(t, api.OK)
	for _, m := range append(badMachines(), setter()) {
		// Also if the machine is not valid otherwise, and all else neither.
		n := m
		n.Steps = append(slices.Clone(m.Steps), make([]cycle.Step, 25)...)
		bad(n).wantErrors(t, api.ErrLimit, allCalls...)
		n = with(m, make([]cycle.Lock, 41)...)
		bad(n).wantErrors(t, api.ErrLimit, allCalls...)
	}
	for _, m := range badMachines() {
		x := good()
		x.Machine = m
		x.wantErrors(t, api.ErrArg, allCalls...)
		bad(m).wantErrors(t, api.ErrArg, allCalls...)
		if slices.ContainsFunc(everywhere(8), func(s cycle.Stand) bool { return cycle.ProveRun(m, nil, s) }) {
			t.Errorf("ProveRun of %v: true", m)
		}
	}
	for _, n := range append(edges(), 3, 4, 7) {
		x, y := good(), good()
		x.to, y.to = at(n, behind), at(2, n)
		x.wantErrors(t, api.ErrRange, "Way")
		y.wantErrors(t, api.ErrRange, "Way")
	}
}

// The row of Ends: its limit comes before its numbers, these before what the log tells.
func TestLogErrors(t *testing.T) {
	for _, n := range edges() {
		for _, log := range [][]int{{n}, {0, 1, n}, {n, 0}, {2, n}, append(make([]int, 19), n)} {
			x := good()
			x.log = log
			x.wantErrors(t, api.ErrRange, "Ends")
			x.lost = -1
			x.wantErrors(t, api.ErrRange, "Ends")
			x.log = append(make([]int, 20), log...)
			x.wantErrors(t, api.ErrLimit, "Ends")
		}
	}
	for _, lost := range append(edges(), 6) {
		for _, log := range [][]int{nil, {0}, {5}, make([]int, 20)} {
			x := good()
			x.log, x.lost = log, lost
			x.wantErrors(t, api.ErrRange, "Ends")
		}
	}
	for _, log := range [][]int{{5}, {0, 0, 0}, make([]int, 20)} {
		x := good()
		x.log = log
		x.wantErrors(t, api.ErrLock, "Ends")
	}
}

// For one call alone: a stand that cannot be, a safe machine, one that no locks serve.
func TestNoResult(t *testing.T) {
	x := good()
	x.to = at(1, behind)
	x.wantErrors(t, api.ErrFail, "Way")
	x = good()
	x.Machine, x.to, x.log = with(open(), lock(0, 2), lock(walk, 1), lock(walk, 2)), at(0, front), nil
	x.wantErrors(t, api.ErrNone, "Danger")
	x.Machine = runs(machine(1), 0)
	x.wantErrors(t, api.ErrFail, "Locks")
}

// R3: nil and a list without elements are the same.
func TestEmpty(t *testing.T) {
	x := asked{machine(1), at(0, front), nil, 0}
	y := asked{cycle.Machine{States: 1, Steps: []cycle.Step{}, Running: []int{}, Locks: []cycle.Lock{}}, x.to, []int{}, 0}
	for _, z := range []asked{x, y} {
		z.wantErrors(t, api.ErrNone, "Danger")
		if list := mustStands(t, z.Machine); !slices.Equal(list, everywhere(1)) {
			t.Errorf("Stands of %v: %v", z.Machine, list)
		}
		if list, ok := endsOf(t, z.Machine, z.log, 0); !ok || !slices.Equal(list, stands(at(0, front))) {
			t.Errorf("Ends of %v: %v, %v", z.Machine, list, ok)
		}
		if !cycle.ProveRun(z.Machine, z.log, z.to) {
			t.Errorf("ProveRun of %v: false", z.Machine)
		}
	}
}

// R4: arguments are not written to, and results share no memory.
func TestMemory(t *testing.T) {
	x := good()
	x.Steps = append(make([]cycle.Step, 0, 9), x.Steps...)
	x.Running = append(make([]int, 0, 9), x.Running...)
	x.Locks = append(make([]cycle.Lock, 0, 9), with(x.Machine, lock(walk, 2)).Locks...)
	x.log = append(make([]int, 0, 9), x.log...)
	x.to, x.log = at(0, behind), x.log[:2]
	steps, running, locks, log := slices.Clone(x.Steps[:9]), slices.Clone(x.Running[:9]), slices.Clone(x.Locks[:9]), slices.Clone(x.log[:9])
	first := x.calls()
	for _, a := range x.calls() {
		switch list := a.result.(type) {
		case []int:
			for i := range list {
				list[i] = -7
			}
			_ = append(list, -7)
		case []cycle.Stand:
			for i := range list {
				list[i] = at(-7, -7)
			}
			_ = append(list, at(-7, -7))
		case []cycle.Lock:
			for i := range list {
				list[i] = lock(-7, -7)
			}
			_ = append(list, lock(-7, -7))
		}
	}
	if !slices.Equal(x.Steps[:9], steps) || !slices.Equal(x.Running[:9], running) || !slices.Equal(x.Locks[:9], locks) || !slices.Equal(x.log[:9], log) {
		t.Errorf("the arguments are %v behind the calls", x)
	}
	if again := x.calls(); !reflect.DeepEqual(again, first) {
		t.Errorf("the results are %v again, not %v", again, first)
	}
}

// P1 and the Rules' first lines: whatever the arguments are, each call returns, and returns the same again.
func TestAnyArguments(t *testing.T) {
	r := rand.New(rand.NewSource(21))
	more := append(edges(), 0, 1, 2, 3, 4, 5, 6, 7, 10)
	number := func(usual int) int {
		if r.Intn(12) > 0 {
			return usual
		}
		return more[r.Intn(len(more))]
	}
	passed := 0
	for range 5000 {
		m := someMachine(r, 8, 25, 6, 41)
		log, _ := someRun(r, m, 30)
		x := asked{m, at(r.Intn(m.States), r.Intn(3)), log, r.Intn(6)}
		if r.Intn(3) > 0 {
			x.States, x.to, x.lost = number(m.States), at(number(x.to.State), number(x.to.Spot)), number(x.lost)
			for i, s := range x.Steps {
				x.Steps[i] = step(number(s.From), number(s.To), number(s.Signal))
			}
			for i, l := range x.Locks {
				x.Locks[i] = lock(number(l.Signal), number(l.At))
			}
			for i := range x.Running {
				x.Running[i] = number(x.Running[i])
			}
			for i := range x.log {
				x.log[i] = number(x.log[i])
			}
		}
		before := x
		before.Steps, before.Running, before.Locks, before.log = slices.Clone(x.Steps), slices.Clone(x.Running), slices.Clone(x.Locks), slices.Clone(x.log)
		if !x.sameAs(before) {
			t.Fatalf("not the same again: %v", x)
		}
		if !reflect.DeepEqual(x, before) {
			t.Fatalf("written to: %v, not %v", x, before)
		}
		if cycle.CheckMachine(x.Machine) == api.OK {
			passed++
		}
	}
	if passed < 1000 || passed > 4500 {
		t.Errorf("%d machines are valid", passed)
	}
}
