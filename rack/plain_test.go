package rack_test

import (
	"math/rand"
	"slices"
	"testing"

	"kingpin/api"
	"kingpin/rack"
)

// The slow model: all truths, one after the other, by the words of the chapter and nothing of the package.

// spot is where a pin stands, found by counting the pins one by one.
type spot struct{ row, k, board int }

func spots(r rack.Rack) []spot {
	var list []spot
	for row := 0; row < r.Rows; row++ {
		for k := 0; k < row+1; k++ {
			list = append(list, spot{row, k, r.Middle + r.Gap*(2*k-row)})
		}
	}
	return list
}

func allPins(r rack.Rack) []int {
	var list []int
	for pin := range spots(r) {
		list = append(list, pin)
	}
	return list
}

func distance(a, b int) int {
	if a < b {
		return b - a
	}
	return a - b
}

// plainKind joins the pieces of the leave until no two of them are neighbours.
func plainKind(r rack.Rack, leave []int) uint8 {
	at := spots(r)
	piece := map[int]int{}
	for _, pin := range leave {
		piece[pin] = pin
	}
	pieces := len(leave)
	for _, a := range leave {
		for _, b := range leave {
			inRow := at[a].row == at[b].row && distance(at[a].k, at[b].k) == 1
			across := distance(at[a].row, at[b].row) == 1 && distance(at[a].board, at[b].board) == r.Gap
			if (!inRow && !across) || piece[a] == piece[b] {
				continue
			}
			old, joined := piece[b], piece[a]
			for _, pin := range leave {
				if piece[pin] == old {
					piece[pin] = joined
				}
			}
			pieces--
		}
	}
	switch {
	case len(leave) == 0:
		return rack.None
	case len(leave) == 1:
		return rack.Single
	case pieces == 1:
		return rack.Plain
	case leave[0] != 0:
		return rack.Split
	}
	return rack.Washout
}

type truth struct {
	boards  []int
	carries []bool
}

// truthsOf are all truths of the ball.
func truthsOf(r rack.Rack, ball []rack.Range) []truth {
	lines := [][]int{nil}
	for _, over := range ball {
		var longer [][]int
		for _, boards := range lines {
			for b := over.Lo; b <= over.Hi; b++ {
				longer = append(longer, append(slices.Clone(boards), b))
			}
		}
		lines = longer
	}
	var truths []truth
	for _, boards := range lines {
		for _, carries := range choices(r.Links) {
			truths = append(truths, truth{boards, carries})
		}
	}
	return truths
}

// choices are all ways in which the links carry or do not.
func choices(links []rack.Link) [][]bool {
	list := [][]bool{nil}
	for _, l := range links {
		var longer [][]bool
		for _, c := range list {
			longer = append(longer, append(slices.Clone(c), true))
			if !l.Sure {
				longer = append(longer, append(slices.Clone(c), false))
			}
		}
		list = longer
	}
	return list
}

// plainLeft goes through the links again and again until no pin falls any more.
func plainLeft(r rack.Rack, pins []int, x truth) []int {
	at := spots(r)
	stands := map[int]bool{}
	for _, pin := range pins {
		stands[pin] = distance(at[pin].board, x.boards[at[pin].row]) > r.Reach
	}
	for again := true; again; {
		again = false
		for i, l := range r.Links {
			_, stood := stands[l.From]
			if x.carries[i] && stood && !stands[l.From] && stands[l.To] {
				stands[l.To], again = false, true
			}
		}
	}
	return slices.DeleteFunc(slices.Clone(pins), func(pin int) bool { return !stands[pin] })
}

// without are the pins of the one list that are not in the other.
func without(pins, others []int) []int {
	return slices.DeleteFunc(slices.Clone(pins), func(pin int) bool { return slices.Contains(others, pin) })
}

func subset(pins, of []int) bool { return len(without(pins, of)) == 0 }

// subsets are all lists of some of the pins.
func subsets(pins []int) [][]int {
	list := [][]int{nil}
	for _, pin := range pins {
		for _, s := range slices.Clone(list) {
			list = append(list, append(slices.Clone(s), pin))
		}
	}
	return list
}

// plainConverts tells whether all pins fall by the ball over these boards, in each truth or in some.
func plainConverts(r rack.Rack, leave []int, l rack.Line, may bool) bool {
	boards := make([]int, r.Rows)
	for row := range boards {
		boards[row] = l.Start + row*l.Drift
	}
	for _, carries := range choices(r.Links) {
		down := len(plainLeft(r, leave, truth{boards, carries})) == 0
		if down == may {
			return may
		}
	}
	return !may
}

// lines are all straight balls, in the order in which Convert prefers them.
func lines() []rack.Line {
	var list []rack.Line
	for start := 0; start <= 60; start++ {
		for drift := -3; drift <= 3; drift++ {
			list = append(list, rack.Line{Start: start, Drift: drift})
		}
	}
	return list
}

// someRack is any rack, the ends of its numbers not seldom.
func someRack(r *rand.Rand, unsure int) rack.Rack {
	x := rack.Rack{Rows: 1 + r.Intn(4), Middle: 60 * r.Intn(2), Gap: 1 + r.Intn(8), Reach: r.Intn(11)}
	if r.Intn(4) > 0 {
		x.Middle, x.Gap, x.Reach = 10+r.Intn(40), 1+r.Intn(4), r.Intn(5)
	}
	pins := len(spots(x))
	for range r.Intn(10) {
		from, to := r.Intn(pins), r.Intn(pins)
		sure := r.Intn(2) == 0
		if from == to || !sure && unsure == 0 {
			continue
		}
		if !sure {
			unsure--
		}
		x.Links = append(x.Links, rack.Link{From: from, To: to, Sure: sure})
	}
	return x
}

// someBall goes near pins of each row.
func someBall(r *rand.Rand, x rack.Rack, wide int) []rack.Range {
	var ball []rack.Range
	at := spots(x)
	for row := range x.Rows {
		near := at[row*(row+1)/2+r.Intn(row+1)].board + r.Intn(5) - 2
		low := min(60, max(0, near))
		ball = append(ball, rack.Range{Lo: low, Hi: min(60, low+r.Intn(wide+1))})
	}
	return ball
}

func somePins(r *rand.Rand, x rack.Rack) []int {
	return slices.DeleteFunc(allPins(x), func(int) bool { return r.Intn(4) == 0 })
}

// someTruth is a truth of the ball, by chance.
func someTruth(r *rand.Rand, x rack.Rack, ball []rack.Range) truth {
	y := truth{make([]int, len(ball)), make([]bool, len(x.Links))}
	for row, over := range ball {
		y.boards[row] = over.Lo + r.Intn(over.Hi-over.Lo+1)
	}
	for i, l := range x.Links {
		y.carries[i] = l.Sure || r.Intn(2) == 0
	}
	return y
}

// thrown is a rack, pins that stand on it, and a ball at them.
type thrown struct {
	rack.Rack
	pins []int
	ball []rack.Range
}

// someThrown visits racks, pins and balls by chance.
func someThrown(seed int64, times int, visit func(r *rand.Rand, x thrown)) {
	r := rand.New(rand.NewSource(seed))
	for range times {
		k := someRack(r, 4)
		visit(r, thrown{k, somePins(r, k), someBall(r, k, 3)})
	}
}

func mustHit(t *testing.T, x thrown, y truth) []int {
	t.Helper()
	left, e := rack.Hit(x.Rack, x.pins, x.ball, y.boards, y.carries)
	if e != api.OK {
		t.Fatalf("Hit of %v by %v: %v", x, y, e)
	}
	return left
}

func mustFalls(t *testing.T, x thrown) (sure, may []int) {
	t.Helper()
	sure, may, e := rack.Falls(x.Rack, x.pins, x.ball)
	if e != api.OK {
		t.Fatalf("Falls of %v: %v", x, e)
	}
	return sure, may
}

func mustLeft(t *testing.T, x thrown) rack.Range {
	t.Helper()
	n, e := rack.Left(x.Rack, x.pins, x.ball)
	if e != api.OK {
		t.Fatalf("Left of %v: %v", x, e)
	}
	return n
}

func mustKind(t *testing.T, r rack.Rack, leave []int) uint8 {
	t.Helper()
	k, e := rack.Kind(r, leave)
	if e != api.OK {
		t.Fatalf("Kind of %v on %v: %v", leave, r, e)
	}
	return k
}
