package oil_test

import (
	"math/bits"
	"math/rand"
	"slices"
	"testing"

	"kingpin/api"
	"kingpin/oil"
)

// The slow model: by the words of the chapter, and nothing of the package but its types.

// deep is the pattern in memory of its own.
func deep(p [][]int) [][]int {
	var own [][]int
	for _, row := range p {
		own = append(own, slices.Clone(row))
	}
	return own
}

// plainCell is the oil of a cell behind a ball over it.
func plainCell(l oil.Lane, had, row, before, own int) int {
	if row > 0 {
		had += l.Carry * before / 100
	}
	if had > 100 {
		had = 100
	}
	if had < own {
		return 0
	}
	return had - own
}

func plainPlay(l oil.Lane, balls, wear [][]int) [][]int {
	p := deep(l.Fresh)
	for i, ball := range balls {
		for row, board := range ball {
			before := 0
			if row > 0 {
				before = wear[i][row-1]
			}
			p[row][board] = plainCell(l, p[row][board], row, before, wear[i][row])
		}
	}
	return p
}

// truths visits all truths of so many balls.
func truths(l oil.Lane, balls int, visit func(wear [][]int)) {
	rows := len(l.Fresh)
	wear := make([][]int, balls)
	for i := range wear {
		wear[i] = make([]int, rows)
	}
	var set func(n int)
	set = func(n int) {
		if n == balls*rows {
			visit(wear)
			return
		}
		for w := l.Wear.Lo; w <= l.Wear.Hi; w++ {
			wear[n/rows][n%rows] = w
			set(n + 1)
		}
	}
	set(0)
}

// levels is all oil that a cell has in truths of the balls: each of them wears any number of Wear in the cell's row, and any in the row before.
func levels(l oil.Lane, balls [][]int, row, board int) []int {
	has := map[int]bool{l.Fresh[row][board]: true}
	for _, ball := range balls {
		if ball[row] != board {
			continue
		}
		behind := map[int]bool{}
		for n := range has {
			for before := l.Wear.Lo; before <= l.Wear.Hi; before++ {
				for own := l.Wear.Lo; own <= l.Wear.Hi; own++ {
					behind[plainCell(l, n, row, before, own)] = true
				}
			}
		}
		has = behind
	}
	var list []int
	for n := range has {
		list = append(list, n)
	}
	return list
}

func plainBounds(l oil.Lane, balls [][]int) (least, most [][]int) {
	least, most = deep(l.Fresh), deep(l.Fresh)
	for row := range least {
		for board := range least[row] {
			all := levels(l, balls, row, board)
			least[row][board], most[row][board] = slices.Min(all), slices.Max(all)
		}
	}
	return least, most
}

func plainPlayable(l oil.Lane, balls [][]int, x oil.Line) bool {
	for row, board := range x.Ball {
		if slices.Min(levels(l, balls, row, board)) < x.Need[row] {
			return false
		}
	}
	return true
}

func plainLasts(l oil.Lane, x oil.Line) int {
	for n := range 20 {
		if !plainPlayable(l, times(n, x.Ball), x) {
			return n
		}
	}
	return 20
}

func ballsOf(block []oil.Line) [][]int {
	var balls [][]int
	for _, x := range block {
		balls = append(balls, x.Ball)
	}
	return balls
}

// plainAlone tells for each line, and each first one up to it, whether it is playable if the last laying is ahead of this first one.
func plainAlone(l oil.Lane, block []oil.Line) [][]bool {
	var alone [][]bool
	for i, x := range block {
		var since []bool
		for first := range i + 1 {
			since = append(since, plainPlayable(l, ballsOf(block[first:i]), x))
		}
		alone = append(alone, since)
	}
	return alone
}

func plainRight(alone [][]bool, plan []int) bool {
	for i := range alone {
		last := 0
		for _, n := range plan {
			if n <= i {
				last = n
			}
		}
		if !alone[i][last] {
			return false
		}
	}
	return true
}

// plans visits all plans of so many lines.
func plans(lines int, visit func(plan []int)) {
	for set := range 1 << max(lines-1, 0) {
		var plan []int
		for rest := set; rest > 0; rest &= rest - 1 {
			plan = append(plan, bits.TrailingZeros(uint(rest))+1)
		}
		visit(plan)
	}
}

// isBetter tells whether a plan has fewer layings, or as many and is the lesser list.
func isBetter(plan, other []int) bool {
	return len(plan) < len(other) || len(plan) == len(other) && slices.Compare(plan, other) < 0
}

// plainPlan is the best of all right plans, and false if there is none.
func plainPlan(l oil.Lane, block []oil.Line) (best []int, right bool) {
	alone := plainAlone(l, block)
	plans(len(block), func(plan []int) {
		if (!right || isBetter(plan, best)) && plainRight(alone, plan) {
			best, right = plan, true
		}
	})
	return best, right
}

// someLane has oil that is low, high, or anything, and often wear and Carry at their ends.
func someLane(r *rand.Rand, rows, boards, wide int) oil.Lane {
	low := r.Intn(10)
	l := oil.Lane{Wear: to(low, min(9, low+r.Intn(wide+1))), Carry: list(0, 100, r.Intn(101), r.Intn(101))[r.Intn(4)]}
	if r.Intn(6) == 0 {
		l.Wear = to(0, r.Intn(wide+1))
	}
	from := []oil.Range{to(0, 12), to(88, 100), to(20, 60), to(0, 100)}[r.Intn(4)]
	for range rows {
		row := make([]int, boards)
		for board := range row {
			row[board] = from.Lo + r.Intn(from.Hi-from.Lo+1)
		}
		l.Fresh = append(l.Fresh, row)
	}
	return l
}

func someBall(r *rand.Rand, l oil.Lane) []int {
	ball := make([]int, len(l.Fresh))
	for row := range ball {
		ball[row] = r.Intn(len(l.Fresh[row]))
	}
	if r.Intn(2) == 0 {
		ball = times(len(ball), ball[0])
	}
	return ball
}

func someBalls(r *rand.Rand, l oil.Lane, many int) [][]int {
	var balls [][]int
	for range many {
		ball := someBall(r, l)
		if len(balls) > 0 && r.Intn(2) == 0 {
			ball = balls[r.Intn(len(balls))]
		}
		balls = append(balls, ball)
	}
	return balls
}

// someTruth is a wear of each of so many balls, often at an end.
func someTruth(r *rand.Rand, l oil.Lane, balls int) [][]int {
	var wear [][]int
	for range balls {
		own := make([]int, len(l.Fresh))
		for row := range own {
			own[row] = list(l.Wear.Lo, l.Wear.Hi, l.Wear.Lo+r.Intn(l.Wear.Hi-l.Wear.Lo+1))[r.Intn(3)]
		}
		wear = append(wear, own)
	}
	return wear
}

// someLine Needs nothing, or what may be there still behind a few balls.
func someLine(r *rand.Rand, l oil.Lane, ball []int) oil.Line {
	x := oil.Line{Ball: ball, Need: make([]int, len(ball))}
	for row, board := range ball {
		if r.Intn(2) == 0 {
			x.Need[row] = max(0, l.Fresh[row][board]-r.Intn(3*l.Wear.Hi+2))
		}
		if r.Intn(200) == 0 {
			x.Need[row] = min(100, l.Fresh[row][board]+1)
		}
	}
	return x
}

func someBlock(r *rand.Rand, l oil.Lane, lines int) []oil.Line {
	var block []oil.Line
	for _, ball := range someBalls(r, l, lines) {
		block = append(block, someLine(r, l, ball))
	}
	return block
}

// count counts what is not so first, then what is.
func count(kinds []int, is bool) {
	if is {
		kinds[1]++
	} else {
		kinds[0]++
	}
}

// wantMany tells if a test by chance has not met all kinds of cases.
func wantMany(t *testing.T, least int, kinds ...[2]int) {
	t.Helper()
	for _, kind := range kinds {
		if slices.Min(kind[:]) < least {
			t.Errorf("too few of some kind: %v", kinds)
		}
	}
}

// P10.1, P10.2, P10.3, P10.6: small lanes by chance, and all truths of a few balls.
func TestAllTruths(t *testing.T) {
	r := rand.New(rand.NewSource(1))
	var playable, apart [2]int
	for range 3000 {
		l := someLane(r, 1+r.Intn(3), 1+r.Intn(3), 2)
		balls := someBalls(r, l, r.Intn(3))
		x := someLine(r, l, someBall(r, l))
		low, high := mustBounds(t, l, balls)
		least, most, is := deep(times(len(l.Fresh), times(len(l.Fresh[0]), 100))), deep(times(len(l.Fresh), make([]int, len(l.Fresh[0])))), true
		truths(l, len(balls), func(wear [][]int) {
			p := mustPlay(t, l, balls, wear)
			if want := plainPlay(l, balls, wear); !same(p, want) {
				t.Fatalf("Play of %v, %v, %v: %v, not %v", l, balls, wear, p, want)
			}
			for row := range p {
				for board, n := range p[row] {
					least[row][board], most[row][board] = min(least[row][board], n), max(most[row][board], n)
				}
				is = is && p[row][x.Ball[row]] >= x.Need[row]
			}
		})
		if !same(low, least) || !same(high, most) {
			t.Fatalf("Bounds of %v, %v: %v, %v, not %v, %v", l, balls, low, high, least, most)
		}
		if got := mustPlayable(t, l, balls, x); got != is || got != plainPlayable(l, balls, x) {
			t.Fatalf("Playable of %v in %v behind %v: %v, not %v", x, l, balls, got, is)
		}
		count(playable[:], is)
		count(apart[:], !same(low, high))
	}
	wantMany(t, 300, playable, apart)
}

// P10.1 to P10.4: lanes of any size, and up to as many balls as may be.
func TestByChance(t *testing.T) {
	r := rand.New(rand.NewSource(2))
	var playable, lasts, full, dry [2]int
	for range 3000 {
		l := someLane(r, 1+r.Intn(8), 1+r.Intn(12), 3)
		balls := someBalls(r, l, r.Intn(21))
		wear := someTruth(r, l, len(balls))
		if p, want := mustPlay(t, l, balls, wear), plainPlay(l, balls, wear); !same(p, want) {
			t.Fatalf("Play of %v, %v, %v: %v, not %v", l, balls, wear, p, want)
		}
		low, high := mustBounds(t, l, balls)
		if least, most := plainBounds(l, balls); !same(low, least) || !same(high, most) {
			t.Fatalf("Bounds of %v, %v: %v, %v, not %v, %v", l, balls, low, high, least, most)
		}
		x := someLine(r, l, someBall(r, l))
		is := mustPlayable(t, l, balls, x)
		if is != plainPlayable(l, balls, x) {
			t.Fatalf("Playable of %v in %v behind %v: %v", x, l, balls, is)
		}
		n := mustLasts(t, l, x)
		if n != plainLasts(l, x) {
			t.Fatalf("Lasts of %v in %v: %d, not %d", x, l, n, plainLasts(l, x))
		}
		count(playable[:], is)
		count(lasts[:], n < 20)
		count(full[:], slices.ContainsFunc(high, func(row []int) bool { return slices.Contains(row, 100) }))
		count(dry[:], slices.ContainsFunc(low, func(row []int) bool { return slices.Contains(row, 0) }))
	}
	wantMany(t, 300, playable, lasts, full, dry)
}

// wantPlainPlan asks for the best plan, against all plans, and tells it.
func wantPlainPlan(t *testing.T, l oil.Lane, block []oil.Line) ([]int, bool) {
	t.Helper()
	plan, right := planOf(t, l, block)
	if want, is := plainPlan(l, block); right != is || !slices.Equal(plan, want) {
		t.Fatalf("Plan of %v, %v: %v, %v, not %v, %v", l, block, plan, right, want, is)
	}
	return plan, right
}

// P10.5: blocks by chance against all plans by the chapter's words.
func TestPlanByChance(t *testing.T) {
	r := rand.New(rand.NewSource(3))
	var rights, none, many [2]int
	for range 2500 {
		l := someLane(r, 1+r.Intn(4), 1+r.Intn(4), 3)
		plan, right := wantPlainPlan(t, l, someBlock(r, l, r.Intn(10)))
		count(rights[:], right)
		count(none[:], len(plan) > 0)
		count(many[:], len(plan) > 2)
	}
	for range 15 {
		l := someLane(r, 1+r.Intn(8), 1+r.Intn(12), 2)
		wantPlainPlan(t, l, someBlock(r, l, 17+r.Intn(4)))
	}
	wantMany(t, 100, rights, none, many)
}

// P10.5: all plans of a block, and lists that are none.
func TestProvePlanByChance(t *testing.T) {
	r := rand.New(rand.NewSource(4))
	var proved [2]int
	for range 1500 {
		l := someLane(r, 1+r.Intn(4), 1+r.Intn(4), 3)
		block := someBlock(r, l, r.Intn(8))
		alone := plainAlone(l, block)
		plans(len(block), func(plan []int) {
			want := plainRight(alone, plan)
			if oil.ProvePlan(l, block, plan) != want {
				t.Fatalf("ProvePlan of %v, %v, %v: not %v", l, block, plan, want)
			}
			count(proved[:], want)
			bad := slices.Insert(slices.Clone(plan), r.Intn(len(plan)+1), list(-1, 0, len(block), len(block)+1)[r.Intn(4)])
			again := append(slices.Clone(plan), plan...)
			if oil.ProvePlan(l, block, bad) || len(plan) > 0 && oil.ProvePlan(l, block, again) {
				t.Fatalf("ProvePlan of %v, %v, %v or %v", l, block, bad, again)
			}
		})
	}
	wantMany(t, 1000, proved)
}

// plainLane goes through the questions of the lane.
func plainLane(l oil.Lane) api.Errno {
	if len(l.Fresh) > 8 || slices.ContainsFunc(l.Fresh, func(row []int) bool { return len(row) > 12 }) {
		return api.ErrLimit
	}
	bad := len(l.Fresh) == 0 || l.Wear.Lo < 0 || l.Wear.Hi > 9 || l.Wear.Lo > l.Wear.Hi || l.Carry < 0 || l.Carry > 100
	for _, row := range l.Fresh {
		bad = bad || len(row) == 0 || len(row) != len(l.Fresh[0])
		for _, n := range row {
			bad = bad || n < 0 || n > 100
		}
	}
	if bad {
		return api.ErrArg
	}
	return api.OK
}

// isInRows tells whether the list has a number for each row, in the range.
func isInRows(l oil.Lane, list []int, in oil.Range) bool {
	for _, n := range list {
		if n < in.Lo || n > in.Hi {
			return false
		}
	}
	return len(list) == len(l.Fresh)
}

func plainBall(l oil.Lane, ball []int) bool { return isInRows(l, ball, to(0, len(l.Fresh[0])-1)) }

func plainLine(l oil.Lane, x oil.Line) bool {
	return plainBall(l, x.Ball) && isInRows(l, x.Need, to(0, 100))
}

func plainBallsError(l oil.Lane, balls [][]int) api.Errno {
	if len(balls) > 20 {
		return api.ErrLimit
	}
	for _, ball := range balls {
		if !plainBall(l, ball) {
			return api.ErrRange
		}
	}
	return api.OK
}

func plainBlockError(l oil.Lane, block []oil.Line) api.Errno {
	if len(block) > 20 {
		return api.ErrLimit
	}
	for _, x := range block {
		if !plainLine(l, x) {
			return api.ErrRange
		}
	}
	return api.OK
}

func plainWearError(l oil.Lane, balls, wear [][]int) api.Errno {
	if len(wear) != len(balls) {
		return api.ErrRange
	}
	for _, own := range wear {
		if !isInRows(l, own, l.Wear) {
			return api.ErrRange
		}
	}
	return api.OK
}

func plainLineError(l oil.Lane, x oil.Line) api.Errno {
	if !plainLine(l, x) {
		return api.ErrRange
	}
	return api.OK
}

// first is the first question that applies. Later ones are not asked.
func first(questions ...func() api.Errno) api.Errno {
	for _, q := range questions {
		if e := q(); e != api.OK {
			return e
		}
	}
	return api.OK
}

// plainErrors is the error of each call, in the order of the section Errors.
func (x asked) plainErrors() map[string]api.Errno {
	ofLane := func() api.Errno { return plainLane(x.Lane) }
	ofBalls := func() api.Errno { return plainBallsError(x.Lane, x.balls) }
	ofBlock := func() api.Errno { return plainBlockError(x.Lane, x.block) }
	ofWear := func() api.Errno { return plainWearError(x.Lane, x.balls, x.wear) }
	ofLine := func() api.Errno { return plainLineError(x.Lane, x.line) }
	ofPlan := func() api.Errno {
		for _, line := range x.block {
			if !plainPlayable(x.Lane, nil, line) {
				return api.ErrFail
			}
		}
		return api.OK
	}
	return map[string]api.Errno{
		"CheckLane": first(ofLane),
		"Play":      first(ofLane, ofBalls, ofWear),
		"Bounds":    first(ofLane, ofBalls),
		"Playable":  first(ofLane, ofBalls, ofLine),
		"Lasts":     first(ofLane, ofLine),
		"Plan":      first(ofLane, ofBlock, ofPlan),
		"ProvePlan": api.OK,
	}
}
