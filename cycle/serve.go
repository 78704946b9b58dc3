package cycle

// serving returns the fewest locks that serve the machine; false, if none do.
func serving(m Machine) ([]Lock, bool) {
	m.Locks = nil
	free := hallOf(m)
	wanted := free.canBe().but(free.danger)
	m.Locks = free.needed(wanted)
	return m.Locks, hallOf(m).canBe() == wanted
}

// needed returns the locks that keep a danger from being next to one of these stands, if all of these can be. At a stand a signal is forbidden by one lock alone, so whichever locks serve have all of these.
func (h hall) needed(can places) []Lock {
	var need locked
	for at := range can.all() {
		for signal, next := range h.next(at) {
			if h.danger(next) {
				lock := lockOf(at, signal)
				need[lock.Signal][lock.At] = true
			}
		}
	}
	return need.list()
}

// list returns the locks by rising Signal, of the same by rising At.
func (l locked) list() []Lock {
	var list []Lock
	for signal, at := range l {
		for i, is := range at {
			if is {
				list = append(list, Lock{signal, i})
			}
		}
	}
	return list
}
