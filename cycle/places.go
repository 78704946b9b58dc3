package cycle

import (
	"iter"
	"slices"

	"kingpin/api"
)

// places is some of the stands.
type places [api.MaxCycleStates][Behind + 1]bool

func (p places) has(s Stand) bool { return p[s.State][s.Spot] }

func (p *places) add(s Stand) { p[s.State][s.Spot] = true }

// all yields the stands, by rising State, of the same by rising Spot.
func (p places) all() iter.Seq[Stand] {
	return func(yield func(Stand) bool) {
		for state, spots := range p {
			for spot, is := range spots {
				if is && !yield(Stand{state, spot}) {
					return
				}
			}
		}
	}
}

func (p places) list() []Stand { return slices.Collect(p.all()) }

func (p places) or(other places) places {
	for s := range other.all() {
		p.add(s)
	}
	return p
}

// but has the stands that are not as told.
func (p places) but(is func(Stand) bool) places {
	var others places
	for s := range p.all() {
		if !is(s) {
			others.add(s)
		}
	}
	return others
}
