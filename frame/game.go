package frame

import (
	"iter"

	"kingpin/api"
)

// long is how many balls the longest frame has, and how many, from its first one on, the count of a strike or a spare needs.
const long = 3

func (l Law) valid() bool {
	return l.Frames >= 1 && l.Frames <= api.MaxFrameFrames &&
		l.Pins >= 1 && l.Pins <= api.MaxFramePins &&
		(l.Balls == 2 || l.Balls == 3) &&
		l.Tap >= 1 && l.Tap <= l.Pins
}

// stand is where a game stands. All that the balls to come can add to the final count depends on it, and on nothing before it.
type stand struct {
	frame, ball int
	standing    int
	fresh       bool // all pins were set for the next ball
	more        bool // the last frame has its balls more
	besides     [2]int
}

// game is a game at play.
type game struct {
	Law
	stand
}

func begin(l Law) game {
	return game{Law: l, stand: stand{standing: l.Pins, fresh: true}}
}

func (g *game) done() bool { return g.frame == g.Frames }

func (g *game) last() bool { return g.frame == g.Frames-1 }

// takes tells whether the ball may follow.
func (g *game) takes(ball int) bool {
	return !g.done() && ball >= Foul && ball <= g.standing
}

// counts returns what the ball counts in its own frame.
func (g *game) counts(ball int) int {
	switch {
	case ball == Foul:
		return 0
	case g.fresh && ball >= g.Tap:
		return g.Pins
	}
	return ball
}

// adds returns what the ball counts in all frames together.
func (g *game) adds(ball int) int { return g.counts(ball) * (1 + g.besides[0]) }

// following yields the balls that may follow, but for a foul, with what they add to the count.
func (g game) following() iter.Seq2[int, int] {
	return func(yield func(ball, adds int) bool) {
		for ball := 0; g.takes(ball); ball++ {
			if !yield(ball, g.adds(ball)) {
				return
			}
		}
	}
}

// behind returns the game behind the ball.
func (g game) behind(ball int) game {
	g.standing -= g.counts(ball)
	g.fresh = false
	g.ball++
	g.besides = [2]int{g.besides[1], 0}
	if g.standing == 0 {
		g.allDown()
	}
	if g.frameEnded() {
		g.nextFrame()
	} else if g.standing == 0 {
		g.set()
	}
	return g
}

// allDown lets the next balls count besides for a strike or a spare, or, in the last frame, gives it its balls more.
func (g *game) allDown() {
	if g.last() {
		g.more = g.more || g.ball < long
		return
	}
	for i := range long - g.ball {
		g.besides[i]++
	}
}

func (g *game) frameEnded() bool {
	switch {
	case !g.last():
		return g.standing == 0 || g.ball == g.Balls
	case g.more:
		return g.ball == long
	}
	return g.ball == g.Balls
}

func (g *game) nextFrame() {
	g.stand = stand{frame: g.frame + 1, besides: g.besides}
	if !g.done() {
		g.set()
	}
}

func (g *game) set() { g.standing, g.fresh = g.Pins, true }

// record is a game at play with what its balls have been and counted.
type record struct {
	game
	frames  [][]int
	counted []int
	total   int
}

// follow plays the balls up to the bad ball and returns its index, or the number of balls if there is none.
func follow(l Law, balls []int) (record, int) {
	r := record{game: begin(l)}
	may := r.takes
	at := 0
search:
	for !r.done() {
		for frame := r.frame; r.frame == frame; at++ {
			if at == len(balls) || !may(balls[at]) {
				break search
			}
			r.note(balls[at])
		}
	}
	return r, at
}

func (r *record) note(ball int) {
	if r.ball == 0 {
		r.frames = append(r.frames, nil)
	}
	r.frames[r.frame] = append(r.frames[r.frame], ball)
	r.counted = append(r.counted, r.counts(ball))
	r.total += r.adds(ball)
	r.game = r.behind(ball)
}

// settled returns the counts up to all frames that are settled.
func (r *record) settled() []int {
	var counts []int
	first := 0
	for i, balls := range r.frames[:r.frame] {
		needs := len(balls)
		// Only where all pins are down frames count as many, and need more balls than their own.
		if sum(r.counted[first:first+needs]...) >= r.Pins {
			needs = long
		}
		if first+needs > len(r.counted) {
			break
		}
		count := sum(r.counted[first : first+needs]...)
		if i > 0 {
			count = sum(count, counts[i-1])
		}
		counts = append(counts, count)
		first += len(balls)
	}
	return counts
}

func sum(numbers ...int) int {
	total := 0
	for _, n := range numbers {
		total += n
	}
	return total
}

// read returns what a sheet that is a game's tells.
func read(l Law, balls []int) (record, api.Errno) {
	if e := checkSheet(l, balls); e != api.OK {
		return record{}, e
	}
	r, bad := follow(l, balls)
	if bad < len(balls) {
		return record{}, api.ErrLaw
	}
	return r, api.OK
}
