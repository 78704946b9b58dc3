package frame_test

import (
	"math/rand"
	"slices"
	"testing"

	"kingpin/api"
	"kingpin/frame"
)

// played is what a sheet comes to, worked out slowly, by the words of the chapter and nothing of the package.
type played struct {
	frames   [][]int
	worth    []int // of each ball
	needs    []int // of each frame that has ended, the balls from its first one on that its count needs
	standing int
	done     bool
	bad      int // -1 if there is none
}

func playPlain(l frame.Law, balls []int) played {
	p := played{bad: -1}
	for f := 0; f < l.Frames; f++ {
		if !p.frame(l, balls, f == l.Frames-1) {
			return p
		}
	}
	p.done, p.standing = true, 0
	if len(p.worth) < len(balls) {
		p.bad = len(p.worth)
	}
	return p
}

// frame plays a frame, and tells whether it has ended.
func (p *played) frame(l frame.Law, balls []int, last bool) bool {
	var mine []int
	set, length, strike, spare := true, l.Balls, false, false
	p.standing = l.Pins
	for n := 1; n <= length; n++ {
		at := len(p.worth)
		if at == len(balls) {
			return false
		}
		b := balls[at]
		if b != frame.Foul && (b < 0 || b > p.standing) {
			p.bad = at
			return false
		}
		mine = append(mine, b)
		if n == 1 {
			p.frames = append(p.frames, nil)
		}
		p.frames[len(p.frames)-1] = mine
		if b == frame.Foul {
			b = 0
		} else if set && b >= l.Tap {
			b = l.Pins
		}
		set = false
		p.worth = append(p.worth, b)
		p.standing -= b
		if p.standing > 0 {
			continue
		}
		strike, spare = strike || n == 1, spare || n == 2
		if !last {
			break
		}
		if n <= 2 {
			length = 3
		}
		if n < length {
			p.standing, set = l.Pins, true
		}
	}
	needs := len(mine)
	if !last && strike {
		needs += 2
	} else if !last && spare {
		needs++
	}
	p.needs = append(p.needs, needs)
	return true
}

func (p played) counts() []int {
	var counts []int
	first, total := 0, 0
	for i, needs := range p.needs {
		if first+needs > len(p.worth) {
			break
		}
		for _, w := range p.worth[first : first+needs] {
			total += w
		}
		counts = append(counts, total)
		first += len(p.frames[i])
	}
	return counts
}

func (p played) next(l frame.Law) int {
	if p.done {
		return 0
	}
	if p.standing == 0 || len(p.needs) == len(p.frames) {
		return l.Pins
	}
	return p.standing
}

// final is the count of a game that is done.
func (p played) final() int {
	c := p.counts()
	return c[len(c)-1]
}

// everySheet visits each sheet that is a game's, with fouls if they are asked for.
func everySheet(l frame.Law, from []int, least int, visit func(sheet []int, p played)) {
	p := playPlain(l, from)
	visit(from, p)
	if p.done {
		return
	}
	for b := least; b <= p.next(l); b++ {
		everySheet(l, append(slices.Clone(from), b), least, visit)
	}
}

// finalsOf are the final counts of all endings of the sheet.
func finalsOf(l frame.Law, sheet []int) map[int]bool {
	finals := map[int]bool{}
	everySheet(l, sheet, 0, func(_ []int, p played) {
		if p.done {
			finals[p.final()] = true
		}
	})
	return finals
}

func spanOf(finals map[int]bool) frame.Range {
	r := frame.Range{Lo: 1 << 30, Hi: -1}
	for n := range finals {
		r.Lo, r.Hi = min(r.Lo, n), max(r.Hi, n)
	}
	return r
}

// smallLaws are laws with so few games that all of them can be gone through.
func smallLaws() []frame.Law {
	var laws []frame.Law
	for _, size := range []struct{ frames, pins, balls int }{{1, 1, 2}, {1, 1, 3}, {1, 3, 2}, {1, 3, 3}, {1, 4, 2}, {2, 1, 3}, {2, 2, 2}, {2, 2, 3}, {2, 3, 2}, {3, 1, 2}, {3, 1, 3}} {
		for tap := 1; tap <= size.pins; tap++ {
			laws = append(laws, frame.Law{Frames: size.frames, Pins: size.pins, Balls: size.balls, Tap: tap})
		}
	}
	return laws
}

// largeLaws are some of all sizes.
func largeLaws() []frame.Law {
	return []frame.Law{{10, 10, 2, 10}, {10, 10, 3, 10}, {10, 10, 2, 9}, {10, 10, 2, 1}, {10, 10, 3, 4}, {3, 10, 2, 10}, {5, 7, 3, 6}, {10, 1, 3, 1}, {1, 10, 2, 8}, {2, 5, 3, 3}}
}

// someGame is a game that is done, by chance, with many strikes, spares and fouls.
func someGame(r *rand.Rand, l frame.Law) []int {
	var sheet []int
	for {
		p := playPlain(l, sheet)
		if p.done {
			return sheet
		}
		ball := p.next(l)
		switch r.Intn(5) {
		case 0:
			ball = frame.Foul
		case 1, 2:
			ball = r.Intn(ball + 1)
		}
		sheet = append(sheet, ball)
	}
}

// someSheets visits whole games by each of the large laws.
func someSheets(each int, visit func(l frame.Law, sheet []int)) {
	r := rand.New(rand.NewSource(7))
	for _, l := range largeLaws() {
		for range each {
			visit(l, someGame(r, l))
		}
	}
}

func mustRead(t *testing.T, l frame.Law, sheet []int) frame.Game {
	t.Helper()
	g, e := frame.Read(l, sheet)
	if e != api.OK {
		t.Fatalf("Read of %v by %v: %v", sheet, l, e)
	}
	return g
}

func mustSpan(t *testing.T, l frame.Law, sheet []int) frame.Range {
	t.Helper()
	s, e := frame.Span(l, sheet)
	if e != api.OK {
		t.Fatalf("Span of %v by %v: %v", sheet, l, e)
	}
	return s
}
