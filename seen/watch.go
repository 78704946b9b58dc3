package seen

import (
	"iter"

	"kingpin/api"
)

// flags is a set of tellers.
type flags [api.MaxSeenTellers]bool

func (f flags) with(tellers ...int) flags {
	for _, teller := range tellers {
		f[teller] = true
	}
	return f
}

func (f flags) list() []int {
	var tellers []int
	for teller, is := range f {
		if is {
			tellers = append(tellers, teller)
		}
	}
	return tellers
}

// watch is a lane with some tellers left out.
type watch struct {
	Lane
	out flags
}

// look is a watch of one frame.
type look struct {
	watch
	frame int
}

func (w watch) at(frame int) look { return look{w, frame} }

// fits tells whether the game of the frame fits all words that are not left out.
func (k look) fits(g rolled) bool {
	fit := true
search:
	for _, b := range balls() {
		for _, word := range k.Words {
			told := word.Place == Place{k.frame, b.number} && !k.out[word.Teller]
			if told && !within(b.stood(g), word.Least, word.Most) {
				fit = false
				break search
			}
		}
	}
	return fit
}

// games yields the games of the frame that fit.
func (k look) games() iter.Seq[rolled] {
	return only(allRolled(), k.fits)
}

// only yields the elements that are as asked.
func only[T any](list iter.Seq[T], is func(T) bool) iter.Seq[T] {
	return func(yield func(T) bool) {
		for x := range list {
			if is(x) && !yield(x) {
				return
			}
		}
	}
}

// possible tells whether there is a game. No word is of several frames, so each frame can be asked alone.
func (w watch) possible() bool {
	for frame := range w.Frames {
		if !some(w.at(frame).games()) {
			return false
		}
	}
	return true
}

func some[T any](list iter.Seq[T]) bool {
	for range list {
		return true
	}
	return false
}

// explainer returns a function that tells whether tellers explain the words. It remembers what it has found.
func explainer(l Lane) func(flags) bool {
	known := map[flags]bool{}
	return func(out flags) bool {
		explains, ok := known[out]
		if !ok {
			explains = watch{l, out}.possible()
			known[out] = explains
		}
		return explains
	}
}

// least returns the fewest tellers that explain: of several such lists the least one.
func least(explain func(flags) bool) flags {
	// Lists of one length come in their order, so the first one that explains is the least one.
	var first func(out flags, next, more int) (flags, bool)
	first = func(out flags, next, more int) (flags, bool) {
		if more == 0 {
			return out, explain(out)
		}
		for teller := next; teller < len(out); teller++ {
			if list, ok := first(out.with(teller), teller+1, more-1); ok {
				return list, true
			}
		}
		return flags{}, false
	}
	for fewest := range api.MaxSeenTellers + 1 {
		if list, ok := first(flags{}, 0, fewest); ok {
			return list
		}
	}
	// Nothing comes here: all tellers together explain whatever they say.
	return flags{}
}
