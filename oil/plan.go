package oil

// stretch is lines of a block, from the first one on up to the one before behind.
type stretch struct{ first, behind int }

// together has the stretches of a block that can be bowled from one laying on.
type together map[stretch]bool

func (l Lane) together(block []Line) together {
	t := together{}
	for first := range len(block) + 1 {
		w := l.least()
		many := w.playable(block[first:]...)
		for n := range many + 1 {
			t[stretch{first, first + n}] = true
		}
	}
	return t
}

// right tells whether a plan of so many lines is.
func (t together) right(lines int, plan []int) bool {
	first := 0
	for _, laying := range plan {
		if !t[stretch{first, laying}] {
			return false
		}
		first = laying
	}
	return t[stretch{first, lines}]
}

// rest is the best plan of a block's last lines, if one is right.
type rest struct {
	plan  []int
	right bool
}

// best returns the best plan of so many lines, and false if none is right.
func (t together) best(lines int) ([]int, bool) {
	known := map[int]rest{}
	var from func(first int) rest
	from = func(first int) rest {
		if r, ok := known[first]; ok {
			return r
		}
		r := rest{right: t[stretch{first, lines}]}
		for next := first + 1; next < lines; next++ {
			if !t[stretch{first, next}] {
				break
			}
			// Of plans with as few layings the first one that is found is the least list.
			behind := from(next)
			if behind.right && (!r.right || len(behind.plan)+1 < len(r.plan)) {
				r = rest{append([]int{next}, behind.plan...), true}
			}
		}
		known[first] = r
		return r
	}
	r := from(0)
	return r.plan, r.right
}
