// Package frame counts games by their laws, ball by ball. It is layer 1: see shared/doc/01-frame.md.
package frame

import "kingpin/api"

// Law is what games go by.
type Law struct{ Frames, Pins, Balls, Tap int }

// Game is what a sheet tells of its game.
type Game struct {
	Frames   [][]int
	Counts   []int
	Standing int
	Done     bool
}

// Range is all whole numbers from Lo up to Hi.
type Range struct{ Lo, Hi int }

// Foul is a ball that counts nothing, whatever it felled.
const Foul = -1

// CheckLaw returns the error of the law, or OK.
func CheckLaw(l Law) api.Errno {
	if !l.valid() {
		return api.ErrArg
	}
	return api.OK
}

// Bad returns the index of the first ball at which the sheet is no game's.
func Bad(l Law, balls []int) (int, api.Errno) {
	if e := checkSheet(l, balls); e != api.OK {
		return 0, e
	}
	_, bad := follow(l, balls)
	if bad == len(balls) {
		return 0, api.ErrNone
	}
	return bad, api.OK
}

// Read returns the game of the sheet.
func Read(l Law, balls []int) (Game, api.Errno) {
	r, e := read(l, balls)
	if e != api.OK {
		return Game{}, e
	}
	return Game{Frames: r.frames, Counts: r.settled(), Standing: r.standing, Done: r.done()}, api.OK
}

// Span returns the range from the least to the greatest final count of all endings.
func Span(l Law, balls []int) (Range, api.Errno) {
	r, e := read(l, balls)
	if e != api.OK {
		return Range{}, e
	}
	return r.finals(search()).span(), api.OK
}

// Shows returns an ending by which the game has this final count: of several, the first by its balls.
func Shows(l Law, balls []int, final int) ([]int, api.Errno) {
	r, e := read(l, balls)
	if e != api.OK {
		return nil, e
	}
	rest := search()
	if !r.finals(rest).has(final) {
		return nil, api.ErrFail
	}
	return ending(r.game, final-r.total, rest), api.OK
}

// Ahead returns the players that may win, and those that are sure to.
func Ahead(l Law, sheets [][]int) (may, sure []int, e api.Errno) {
	if e := checkMatch(l, sheets); e != api.OK {
		return nil, nil, e
	}
	spans, e := spansOf(l, sheets)
	if e != api.OK {
		return nil, nil, e
	}
	for i, own := range spans {
		before, behind := spans[:i], spans[i+1:]
		reached := func(other Range) bool { return other.Lo <= own.Hi }
		beaten := func(other Range) bool { return other.Hi < own.Lo }
		if all(before, reached) && all(behind, reached) {
			may = append(may, i)
		}
		if all(before, beaten) && all(behind, beaten) {
			sure = append(sure, i)
		}
	}
	return may, sure, api.OK
}

func spansOf(l Law, sheets [][]int) ([]Range, api.Errno) {
	// One search for all sheets: their games go by the same law.
	rest := search()
	var spans []Range
	for _, balls := range sheets {
		r, e := read(l, balls)
		if e != api.OK {
			return nil, e
		}
		spans = append(spans, r.finals(rest).span())
	}
	return spans, api.OK
}

func checkSheet(l Law, balls []int) api.Errno {
	if e := CheckLaw(l); e != api.OK {
		return e
	}
	if !short(balls) {
		return api.ErrLimit
	}
	return api.OK
}

func checkMatch(l Law, sheets [][]int) api.Errno {
	switch {
	case !l.valid():
		return api.ErrArg
	case len(sheets) > api.MaxFramePlayers || !all(sheets, short):
		return api.ErrLimit
	case len(sheets) == 0:
		return api.ErrArg
	}
	return api.OK
}

func short(balls []int) bool { return len(balls) <= api.MaxFrameBalls }

// all tells whether each element is as asked.
func all[T any](list []T, is func(T) bool) bool {
	for _, x := range list {
		if !is(x) {
			return false
		}
	}
	return true
}
