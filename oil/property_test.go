package oil_test

import (
	"math/rand"
	"slices"
	"testing"

	"kingpin/api"
	"kingpin/oil"
)

// someCases visits lanes by chance, with balls on them.
func someCases(seed int64, many, mostBalls, wide int, visit func(r *rand.Rand, l oil.Lane, balls [][]int)) {
	r := rand.New(rand.NewSource(seed))
	for range many {
		l := someLane(r, 1+r.Intn(8), 1+r.Intn(12), wide)
		visit(r, l, someBalls(r, l, r.Intn(mostBalls+1)))
	}
}

// P10.6: in truths by chance, and in those at the ends.
func TestWhateverWears(t *testing.T) {
	var playable, tight [2]int
	someCases(11, 3000, 20, 9, func(r *rand.Rand, l oil.Lane, balls [][]int) {
		least, most := mustBounds(t, l, balls)
		x := someLine(r, l, someBall(r, l))
		is := mustPlayable(t, l, balls, x)
		for range 6 {
			wear := someTruth(r, l, len(balls))
			p := mustPlay(t, l, balls, wear)
			for row := range p {
				for board, n := range p[row] {
					if n < least[row][board] || n > most[row][board] {
						t.Fatalf("Bounds of %v, %v: %v, %v; Play of %v: %v", l, balls, least, most, wear, p)
					}
				}
				if n := p[row][x.Ball[row]]; is && n < x.Need[row] {
					t.Fatalf("Playable of %v in %v behind %v, but Play of %v: %v", x, l, balls, wear, p)
				}
			}
		}
		count(playable[:], is)
		for row, board := range x.Ball {
			count(tight[:], x.Need[row] == least[row][board])
		}
	})
	wantMany(t, 300, playable, tight)
}

// endTruth is one in which all balls wear the one number in the row, and the other one in the row before it.
func endTruth(r *rand.Rand, l oil.Lane, balls, row, before, own int) [][]int {
	wear := someTruth(r, l, balls)
	for _, w := range wear {
		w[row] = own
		if row > 0 {
			w[row-1] = before
		}
	}
	return wear
}

// P10.7: cell by cell, whatever is worn in the rows apart.
func TestEnds(t *testing.T) {
	var apart [2]int
	someCases(12, 1000, 20, 9, func(r *rand.Rand, l oil.Lane, balls [][]int) {
		least, most := mustBounds(t, l, balls)
		for row := range l.Fresh {
			low := mustPlay(t, l, balls, endTruth(r, l, len(balls), row, l.Wear.Lo, l.Wear.Hi))
			high := mustPlay(t, l, balls, endTruth(r, l, len(balls), row, l.Wear.Hi, l.Wear.Lo))
			if !slices.Equal(low[row], least[row]) || !slices.Equal(high[row], most[row]) {
				t.Fatalf("Bounds of %v, %v: %v, %v, but %v, %v in the row %d", l, balls, least, most, low, high, row)
			}
			count(apart[:], !slices.Equal(low[row], high[row]))
		}
	})
	wantMany(t, 500, apart)
}

// P10.8: by all plans that ProvePlan takes.
func TestNoFewer(t *testing.T) {
	var rights, proved, many [2]int
	someCases(13, 1500, 9, 3, func(r *rand.Rand, l oil.Lane, _ [][]int) {
		block := someBlock(r, l, r.Intn(10))
		plan, right := planOf(t, l, block)
		var each []int
		plans(len(block), func(other []int) {
			is := oil.ProvePlan(l, block, other)
			if is && (!right || isBetter(other, plan)) {
				t.Fatalf("Plan of %v, %v: %v, %v, but %v is right", l, block, plan, right, other)
			}
			if len(other) >= len(each) {
				each = other
			}
			count(proved[:], is)
		})
		if oil.ProvePlan(l, block, each) != right {
			t.Fatalf("Plan of %v, %v: %v, %v, but ProvePlan of %v", l, block, plan, right, each)
		}
		count(rights[:], right)
		count(many[:], len(plan) > 1)
	})
	wantMany(t, 50, rights, proved, many)
}

// P10.8: with as many lines as may be; if any plan is right that of all layings is.
func TestLongBlocks(t *testing.T) {
	var rights [2]int
	someCases(14, 1500, 0, 4, func(r *rand.Rand, l oil.Lane, _ [][]int) {
		block := someBlock(r, l, 20)
		plan, right := planOf(t, l, block)
		each := make([]int, 19)
		for i := range each {
			each[i] = i + 1
		}
		if oil.ProvePlan(l, block, each) != right {
			t.Fatalf("Plan of %v, %v: %v, %v", l, block, plan, right)
		}
		// None of the layings can be left out, and none can come sooner.
		for i, n := range plan {
			fewer := slices.Delete(slices.Clone(plan), i, i+1)
			sooner := slices.Clone(plan)
			sooner[i] = n - 1
			if oil.ProvePlan(l, block, fewer) || oil.ProvePlan(l, block, sooner) {
				t.Fatalf("Plan of %v, %v: %v, but %v or %v is right", l, block, plan, fewer, sooner)
			}
		}
		count(rights[:], right)
	})
	wantMany(t, 100, rights)
}

// wider is the lane with a wider Wear, or the same one.
func wider(r *rand.Rand, l oil.Lane) oil.Lane {
	l.Wear = to(max(0, l.Wear.Lo-r.Intn(3)), min(9, l.Wear.Hi+r.Intn(3)))
	return l
}

// P10.9: a wider Wear.
func TestWider(t *testing.T) {
	var shorter, moved, lost [2]int
	someCases(15, 3000, 20, 3, func(r *rand.Rand, l oil.Lane, balls [][]int) {
		wide := wider(r, l)
		least, most := mustBounds(t, l, balls)
		low, high := mustBounds(t, wide, balls)
		for row := range least {
			for board := range least[row] {
				if low[row][board] > least[row][board] || high[row][board] < most[row][board] {
					t.Fatalf("Bounds of %v, %v: %v, %v, with %v %v, %v", l, balls, least, most, wide.Wear, low, high)
				}
			}
		}
		x := someLine(r, l, someBall(r, l))
		n, m := mustLasts(t, l, x), mustLasts(t, wide, x)
		if m > n || mustPlayable(t, wide, balls, x) && !mustPlayable(t, l, balls, x) {
			t.Fatalf("Lasts, Playable of %v in %v and with %v: %d, %d", x, l, wide.Wear, n, m)
		}
		block := someBlock(r, l, r.Intn(8))
		plan, right := planOf(t, l, block)
		other, is := planOf(t, wide, block)
		if is && (!right || !oil.ProvePlan(l, block, other)) {
			t.Fatalf("Plan of %v, %v: %v, with %v %v", l, block, plan, wide.Wear, other)
		}
		count(shorter[:], m < n)
		count(moved[:], !same(low, least) && !same(high, most))
		count(lost[:], is && len(other) > len(plan))
	})
	wantMany(t, 200, shorter, moved, lost)
}

// P10.9: a greater Need.
func TestGreaterNeed(t *testing.T) {
	var lost, all [2]int
	someCases(16, 2000, 0, 3, func(r *rand.Rand, l oil.Lane, _ [][]int) {
		block := someBlock(r, l, r.Intn(8))
		var needy []oil.Line
		for _, x := range block {
			need := slices.Clone(x.Need)
			row := r.Intn(len(need))
			need[row] = min(100, need[row]+r.Intn(4))
			needy = append(needy, oil.Line{Ball: x.Ball, Need: need})
			if mustLasts(t, l, needy[len(needy)-1]) > mustLasts(t, l, x) {
				t.Fatalf("Lasts of %v in %v: less than with %v", x, l, need)
			}
		}
		plans(len(block), func(plan []int) {
			before, behind := oil.ProvePlan(l, block, plan), oil.ProvePlan(l, needy, plan)
			if behind && !before {
				t.Fatalf("ProvePlan of %v, %v, %v: false, but not of %v", l, block, plan, needy)
			}
			count(lost[:], before && !behind)
			count(all[:], before)
		})
	})
	wantMany(t, 300, lost, all)
}

// P10.10: any balls, and those behind them.
func TestBallByBall(t *testing.T) {
	var split [2]int
	someCases(17, 3000, 20, 9, func(r *rand.Rand, l oil.Lane, balls [][]int) {
		wear := someTruth(r, l, len(balls))
		p := mustPlay(t, l, balls, wear)
		least, most := mustBounds(t, l, balls)
		at := r.Intn(len(balls) + 1)
		if r.Intn(2) == 0 {
			at = max(len(balls)-1, 0)
		}
		then, low, high := l, l, l
		then.Fresh = mustPlay(t, l, balls[:at], wear[:at])
		low.Fresh, high.Fresh = mustBounds(t, l, balls[:at])
		lower, _ := mustBounds(t, low, balls[at:])
		_, higher := mustBounds(t, high, balls[at:])
		if last := mustPlay(t, then, balls[at:], wear[at:]); !same(last, p) || !same(lower, least) || !same(higher, most) {
			t.Fatalf("Play, Bounds of %v, %v, %v: %v, %v, %v, from %d on %v, %v, %v", l, balls, wear, p, least, most, at, last, lower, higher)
		}
		for row := range p {
			for board, n := range l.Fresh[row] {
				over := slices.ContainsFunc(balls, func(ball []int) bool { return ball[row] == board })
				if !over && (p[row][board] != n || least[row][board] != n || most[row][board] != n) {
					t.Fatalf("Play, Bounds of %v, %v, %v: %v, %v, %v", l, balls, wear, p, least, most)
				}
			}
		}
		count(split[:], at > 0 && at < len(balls))
	})
	wantMany(t, 300, split)
}

// P10.11: a Carry of 0, and balls in another order.
func TestNothingCarried(t *testing.T) {
	var dry, changed [2]int
	someCases(18, 3000, 20, 9, func(r *rand.Rand, l oil.Lane, balls [][]int) {
		l.Carry = 0
		least, most := mustBounds(t, l, balls)
		for row := range l.Fresh {
			for board, n := range l.Fresh[row] {
				over := 0
				for _, ball := range balls {
					if ball[row] == board {
						over++
					}
				}
				low, high := max(0, n-over*l.Wear.Hi), max(0, n-over*l.Wear.Lo)
				if least[row][board] != low || most[row][board] != high {
					t.Fatalf("Bounds of %v, %v: %v, %v", l, balls, least, most)
				}
				count(dry[:], low == 0 && n > 0)
			}
		}
		other := slices.Clone(balls)
		r.Shuffle(len(other), func(i, j int) { other[i], other[j] = other[j], other[i] })
		low, high := mustBounds(t, l, other)
		if !same(low, least) || !same(high, most) {
			t.Fatalf("Bounds of %v, %v: %v, %v, of %v: %v, %v", l, balls, least, most, other, low, high)
		}
		count(changed[:], !same(balls, other))
	})
	wantMany(t, 300, dry, changed)
}

// mirrored is the list the other way round.
func mirrored(row []int) []int {
	row = slices.Clone(row)
	slices.Reverse(row)
	return row
}

func mirroredPattern(p [][]int) [][]int {
	p = deep(p)
	for i, row := range p {
		p[i] = mirrored(row)
	}
	return p
}

// mirroredBall goes over the boards as they are counted from the other side.
func mirroredBall(l oil.Lane, ball []int) []int {
	ball = slices.Clone(ball)
	for row, board := range ball {
		ball[row] = len(l.Fresh[0]) - 1 - board
	}
	return ball
}

// P10.12: all calls, mirrored.
func TestMirrored(t *testing.T) {
	var wide [2]int
	someCases(19, 2000, 20, 4, func(r *rand.Rand, l oil.Lane, balls [][]int) {
		m := l
		m.Fresh = mirroredPattern(l.Fresh)
		var mirror [][]int
		for _, ball := range balls {
			mirror = append(mirror, mirroredBall(l, ball))
		}
		wear := someTruth(r, l, len(balls))
		least, most := mustBounds(t, l, balls)
		low, high := mustBounds(t, m, mirror)
		p, q := mustPlay(t, l, balls, wear), mustPlay(t, m, mirror, wear)
		if !same(q, mirroredPattern(p)) || !same(low, mirroredPattern(least)) || !same(high, mirroredPattern(most)) {
			t.Fatalf("Play, Bounds of %v, %v, %v: %v, %v, %v, mirrored %v, %v, %v", l, balls, wear, p, least, most, q, low, high)
		}
		block := someBlock(r, l, r.Intn(8))
		var other []oil.Line
		for _, x := range block {
			y := oil.Line{Ball: mirroredBall(l, x.Ball), Need: x.Need}
			other = append(other, y)
			if mustPlayable(t, l, balls, x) != mustPlayable(t, m, mirror, y) || mustLasts(t, l, x) != mustLasts(t, m, y) {
				t.Fatalf("Playable, Lasts of %v in %v behind %v: not as mirrored", x, l, balls)
			}
		}
		plan, e := oil.Plan(l, block)
		if again, f := oil.Plan(m, other); !slices.Equal(again, plan) || e != f || oil.ProvePlan(m, other, plan) != (e == api.OK) {
			t.Fatalf("Plan of %v, %v: %v, %v, mirrored %v, %v", l, block, plan, e, again, f)
		}
		count(wide[:], len(l.Fresh[0]) > 1)
	})
	wantMany(t, 100, wide)
}
