package bill_test

import (
	"slices"
	"testing"

	"kingpin/api"
	"kingpin/bill"
)

func list(x ...int) []int { return x }

func to(low, high int) bill.Range { return bill.Range{Lo: low, Hi: high} }

func amount(games, quarters, shoes int) bill.Amount {
	return bill.Amount{Games: games, Quarters: quarters, Shoes: shoes}
}

// each is the amount with the same number of all.
func each(n int) bill.Amount { return amount(n, n, n) }

func plus(a, b bill.Amount) bill.Amount {
	return amount(a.Games+b.Games, a.Quarters+b.Quarters, a.Shoes+b.Shoes)
}

func allDay() bill.Range { return to(0, 23) }

func offer(price int, has bill.Amount, hours bill.Range, most int) bill.Offer {
	return bill.Offer{Price: price, Has: has, Hours: hours, Most: most}
}

func offers(x ...bill.Offer) []bill.Offer { return x }

func message(no, coins, total int) bill.Message {
	return bill.Message{No: no, Coins: coins, Total: total}
}

func messages(x ...bill.Message) []bill.Message { return x }

// times is a list with the same element so many times.
func times[T any](n int, x T) []T { return slices.Repeat([]T{x}, n) }

func sum(numbers []int) int {
	n := 0
	for _, x := range numbers {
		n += x
	}
	return n
}

// bought is a purchase and its cost, and false if there is none.
type bought struct {
	purchase []int
	cost     int
	is       bool
}

// bestOf is the best purchase; ProvePurchase must say so of it, and not for a coin less.
func bestOf(t *testing.T, l []bill.Offer, need bill.Amount, hour int) bought {
	t.Helper()
	purchase, cost, e := bill.Best(l, need, hour)
	if e == api.ErrFail && len(purchase) == 0 && cost == 0 {
		return bought{}
	}
	if e != api.OK || !bill.ProvePurchase(l, need, hour, purchase, cost) || bill.ProvePurchase(l, need, hour, purchase, cost-1) {
		t.Fatalf("Best of %v, %v at %d: %v, %d, %v", l, need, hour, purchase, cost, e)
	}
	return bought{purchase, cost, true}
}

func wantBest(t *testing.T, l []bill.Offer, need bill.Amount, hour, cost int, purchase ...int) {
	t.Helper()
	if b := bestOf(t, l, need, hour); !b.is || b.cost != cost || !slices.Equal(b.purchase, purchase) {
		t.Errorf("Best of %v, %v at %d: %v, not %v for %d", l, need, hour, b, purchase, cost)
	}
}

func wantNoBest(t *testing.T, l []bill.Offer, need bill.Amount, hour int) {
	t.Helper()
	if b := bestOf(t, l, need, hour); b.is {
		t.Errorf("Best of %v, %v at %d: %v", l, need, hour, b)
	}
}

func mustShare(t *testing.T, sum int, weights []int) []int {
	t.Helper()
	shares, e := bill.Share(sum, weights)
	if e != api.OK {
		t.Fatalf("Share of %d by %v: %v", sum, weights, e)
	}
	return shares
}

func wantShare(t *testing.T, sum int, weights []int, want ...int) {
	t.Helper()
	if shares := mustShare(t, sum, weights); !slices.Equal(shares, want) {
		t.Errorf("Share of %d by %v: %v, not %v", sum, weights, shares, want)
	}
}

func mustLose(t *testing.T, l []bill.Message) []int {
	t.Helper()
	lost, e := bill.Lost(l)
	if e != api.OK {
		t.Fatalf("Lost of %v: %v", l, e)
	}
	return lost
}

func wantLost(t *testing.T, l []bill.Message, want ...int) {
	t.Helper()
	if lost := mustLose(t, l); !slices.Equal(lost, want) {
		t.Errorf("Lost of %v: %v, not %v", l, lost, want)
	}
}

func mustTake(t *testing.T, l []bill.Message, from, to int) bill.Range {
	t.Helper()
	taken, e := bill.Taken(l, from, to)
	if e != api.OK {
		t.Fatalf("Taken of %v from %d to %d: %v", l, from, to, e)
	}
	return taken
}

func wantTaken(t *testing.T, l []bill.Message, from, to, low, high int) {
	t.Helper()
	if taken := mustTake(t, l, from, to); taken.Lo != low || taken.Hi != high {
		t.Errorf("Taken of %v from %d to %d: %v, not %d..%d", l, from, to, taken, low, high)
	}
}

// mustShow is sales that fit; ProveSales must say so of them.
func mustShow(t *testing.T, l []bill.Message) []int {
	t.Helper()
	sales, e := bill.Shows(l)
	if e != api.OK || !bill.ProveSales(l, sales) {
		t.Fatalf("Shows of %v: %v, %v", l, sales, e)
	}
	return sales
}

func wantProved(t *testing.T, l []bill.Message, want bool, sales ...int) {
	t.Helper()
	if bill.ProveSales(l, sales) != want {
		t.Errorf("ProveSales of %v, %v: not %v", l, sales, want)
	}
}

// wantContrary asks for messages that contradict themselves, in any order.
func wantContrary(t *testing.T, l ...bill.Message) {
	t.Helper()
	back := slices.Clone(l)
	slices.Reverse(back)
	for _, l := range [][]bill.Message{l, back} {
		lost, e := bill.Lost(l)
		taken, f := bill.Taken(l, 1, 1)
		sales, g := bill.Shows(l)
		if e != api.ErrFail || f != api.ErrFail || g != api.ErrFail || len(lost) > 0 || taken != to(0, 0) || len(sales) > 0 {
			t.Errorf("Lost, Taken, Shows of %v: %v, %v, %v, %v, %v, %v", l, lost, e, taken, f, sales, g)
		}
	}
}

// prices and till are those of the chapter's examples.
func prices() []bill.Offer {
	return offers(offer(500, amount(1, 0, 0), allDay(), 12), offer(1300, amount(3, 0, 2), allDay(), 2), offer(200, amount(0, 0, 1), allDay(), 12), offer(1500, amount(0, 4, 4), to(10, 15), 1))
}

func till() []bill.Message { return messages(message(5, 10, 200), message(2, 30, 80)) }

// The chapter's examples.
func TestExamples(t *testing.T) {
	wantBest(t, prices(), amount(4, 0, 3), 9, 2000, 1, 1, 1, 0)
	wantBest(t, prices(), amount(3, 0, 0), 9, 1300, 0, 1, 0, 0)
	wantBest(t, prices(), amount(0, 4, 4), 10, 1500, 0, 0, 0, 1)
	wantNoBest(t, prices(), amount(0, 4, 4), 9)
	wantShare(t, 1000, list(1, 1, 1), 333, 333, 334)
	wantShare(t, 100, list(2, 0, 1), 66, 0, 34)
	wantLost(t, till(), 1, 3, 4)
	wantTaken(t, till(), 1, 1, 50, 50)
	wantTaken(t, till(), 3, 3, 1, 109)
	wantTaken(t, till(), 3, 4, 110, 110)
	wantTaken(t, till(), 1, 3, 81, 189)
	wantContrary(t, append(till(), message(4, 20, 170))...)
}

// P11.1: each end of the hours, and the hours next to it.
func TestHours(t *testing.T) {
	for _, hours := range []bill.Range{to(0, 0), to(23, 23), to(12, 12), allDay(), to(0, 11), to(12, 23), to(10, 15), to(22, 23), to(0, 1)} {
		l := offers(offer(70, amount(1, 0, 0), hours, 12))
		for hour := range 24 {
			if hour < hours.Lo || hour > hours.Hi {
				wantNoBest(t, l, amount(2, 0, 0), hour)
				wantBest(t, l, each(0), hour, 0, 0)
			} else {
				wantBest(t, l, amount(2, 0, 0), hour, 140, 2)
			}
			for many := range 3 {
				want := many == 0 || hour >= hours.Lo && hour <= hours.Hi
				if bill.ProvePurchase(l, each(0), hour, list(many), 140) != want {
					t.Errorf("ProvePurchase of %v, %d at %d: not %v", l, many, hour, want)
				}
			}
		}
	}
	// By day one offer, at night another one.
	l := offers(offer(50, amount(1, 0, 0), to(0, 11), 3), offer(80, amount(1, 0, 0), to(10, 23), 12))
	wantBest(t, l, amount(3, 0, 0), 9, 150, 3, 0)
	wantNoBest(t, l, amount(4, 0, 0), 9)
	wantBest(t, l, amount(4, 0, 0), 10, 230, 3, 1)
	wantBest(t, l, amount(4, 0, 0), 12, 320, 0, 4)
}

// P11.1: how often an offer may be bought.
func TestMost(t *testing.T) {
	for most := range 13 {
		l := offers(offer(10000, amount(1, 0, 0), allDay(), most), offer(0, each(0), allDay(), 12))
		for games := range 13 {
			if games <= most {
				wantBest(t, l, amount(games, 0, 0), 5, games*10000, games, 0)
			} else {
				wantNoBest(t, l, amount(games, 0, 0), 5)
			}
		}
		for _, many := range list(-1, 0, most, most+1) {
			want := many >= 0 && many <= most
			if bill.ProvePurchase(l, each(0), 5, list(many, 12), 120000) != want {
				t.Errorf("ProvePurchase of %v, %d: not %v", l, many, want)
			}
		}
	}
	// The cheaper one first, as often as may be.
	l := offers(offer(30, amount(1, 0, 0), allDay(), 12), offer(20, amount(1, 0, 0), allDay(), 5), offer(10, amount(1, 0, 0), allDay(), 3), offer(1, amount(12, 0, 0), allDay(), 0))
	wantBest(t, l, amount(12, 0, 0), 0, 250, 4, 5, 3, 0)
	wantBest(t, l, amount(8, 0, 0), 0, 130, 0, 5, 3, 0)
	wantBest(t, l, amount(2, 0, 0), 0, 20, 0, 0, 2, 0)
}

// P11.1: nothing, and as much as may be, of no offers and of as many as may be.
func TestEdges(t *testing.T) {
	for _, none := range [][]bill.Offer{nil, {}} {
		wantBest(t, none, each(0), 0, 0)
		wantBest(t, none, each(0), 23, 0)
		wantNoBest(t, none, amount(0, 0, 1), 0)
		wantNoBest(t, none, each(12), 23)
	}
	wantBest(t, prices(), each(0), 9, 0, 0, 0, 0, 0)
	wantNoBest(t, prices(), each(12), 12)
	one := offers(offer(10000, each(1), to(3, 3), 12))
	wantBest(t, one, each(12), 3, 120000, 12)
	wantBest(t, one, amount(2, 7, 5), 3, 70000, 7)
	wantNoBest(t, one, each(1), 4)
	wantBest(t, offers(offer(0, each(12), allDay(), 1)), each(12), 0, 0, 1)
	six := times(6, offer(10000, each(1), allDay(), 2))
	wantBest(t, six, each(12), 0, 120000, 2, 2, 2, 2, 2, 2)
	wantBest(t, six, each(3), 0, 30000, 0, 0, 0, 0, 1, 2)
	wantBest(t, times(6, offer(0, each(1), allDay(), 2)), each(12), 0, 0, 2, 2, 2, 2, 2, 2)
	six[5].Most = 1
	wantNoBest(t, six, each(12), 0)
	wantBest(t, six, each(11), 0, 110000, 2, 2, 2, 2, 2, 1)
	// Games, Quarters and Shoes are not taken for one another.
	apart := offers(offer(1, amount(1, 0, 0), allDay(), 12), offer(10, amount(0, 1, 0), allDay(), 12), offer(100, amount(0, 0, 1), allDay(), 12))
	wantBest(t, apart, amount(2, 3, 5), 0, 532, 2, 3, 5)
	wantBest(t, apart, amount(12, 0, 1), 0, 112, 12, 0, 1)
	wantNoBest(t, apart[:2], amount(0, 0, 1), 0)
	wantNoBest(t, apart[1:], amount(1, 0, 0), 0)
}

// P11.1, P11.6: more than the amount may be cheaper; of as much the fewest offers, and of these the least list.
func TestTies(t *testing.T) {
	l := offers(offer(100, amount(1, 0, 0), allDay(), 12), offer(250, amount(3, 0, 0), allDay(), 12), offer(190, amount(2, 2, 2), allDay(), 12))
	wantBest(t, l, amount(1, 0, 0), 0, 100, 1, 0, 0)
	wantBest(t, l, amount(2, 0, 0), 0, 190, 0, 0, 1)
	wantBest(t, l, amount(5, 0, 0), 0, 440, 0, 1, 1)
	wantBest(t, l, amount(6, 0, 0), 0, 500, 0, 2, 0)
	wantBest(t, l, amount(3, 1, 0), 0, 290, 1, 0, 1)
	// One of 200, or two of 100: the fewest. Of two that are the same the later one: the least list.
	same := offers(offer(100, amount(1, 0, 0), allDay(), 12), offer(200, amount(2, 0, 0), allDay(), 12), offer(100, amount(1, 0, 0), allDay(), 12))
	wantBest(t, same, amount(1, 0, 0), 0, 100, 0, 0, 1)
	wantBest(t, same, amount(2, 0, 0), 0, 200, 0, 1, 0)
	wantBest(t, same, amount(3, 0, 0), 0, 300, 0, 1, 1)
	wantBest(t, same, amount(4, 0, 0), 0, 400, 0, 2, 0)
	// Three offers in several ways: 1 and 2, or 0 with 2 of something else.
	ways := offers(offer(300, amount(3, 0, 0), allDay(), 1), offer(200, amount(2, 0, 0), allDay(), 12), offer(300, amount(3, 0, 0), allDay(), 1), offer(100, amount(1, 0, 0), allDay(), 12))
	wantBest(t, ways, amount(6, 0, 0), 0, 600, 1, 0, 1, 0)
	wantBest(t, ways, amount(7, 0, 0), 0, 700, 0, 2, 1, 0)
	wantBest(t, ways, amount(5, 0, 0), 0, 500, 0, 1, 1, 0)
	// What costs nothing is not bought needlessly either.
	free := offers(offer(0, each(0), allDay(), 12), offer(0, amount(1, 0, 0), allDay(), 12), offer(0, amount(1, 1, 0), allDay(), 12))
	wantBest(t, free, each(0), 0, 0, 0, 0, 0)
	wantBest(t, free, amount(2, 1, 0), 0, 0, 0, 0, 2)
	wantBest(t, free, amount(2, 2, 0), 0, 0, 0, 0, 2)
	// But fewer offers for more are not the best.
	dear := offers(offer(1, amount(1, 0, 0), allDay(), 12), offer(13, amount(12, 0, 0), allDay(), 1))
	wantBest(t, dear, amount(12, 0, 0), 0, 12, 12, 0)
}

// P11.1: purchases that are proved, though not best, and what is none.
func TestProvePurchase(t *testing.T) {
	need := amount(4, 0, 3)
	for _, x := range []struct {
		hour     int
		purchase []int
		cost     int
		want     bool
	}{
		{9, list(1, 1, 1, 0), 2000, true}, {9, list(1, 1, 1, 0), 2001, true}, {9, list(1, 1, 1, 0), 1999, false}, {9, list(1, 1, 1, 0), 0, false}, {9, list(1, 1, 1, 0), -1, false},
		{9, list(4, 0, 3, 0), 2600, true}, {9, list(4, 0, 3, 0), 2599, false}, {9, list(0, 2, 0, 0), 2600, true}, {9, list(12, 2, 12, 0), 11000, true}, {9, list(12, 2, 12, 0), 10999, false}, {9, list(0, 2, 0, 0), 1 << 62, true},
		{9, list(0, 1, 1, 0), 9999, false}, {9, list(1, 1, 0, 0), 9999, false}, {9, list(4, 0, 2, 0), 9999, false}, {9, list(3, 0, 3, 0), 9999, false}, {9, list(0, 0, 0, 0), 9999, false},
		{9, list(13, 1, 1, 0), 99999, false}, {9, list(1, 3, 1, 0), 99999, false}, {9, list(-1, 2, 0, 0), 99999, false}, {9, list(4, 1, -1, 0), 99999, false},
		{9, list(1, 1, 1, 1), 9999, false}, {10, list(1, 1, 1, 1), 3500, true}, {15, list(1, 1, 0, 1), 3300, true}, {16, list(1, 1, 0, 1), 9999, false}, {10, list(1, 1, 1, 2), 9999, false}, {10, list(1, 1, 1, 1), 3499, false},
		{9, list(1, 1, 1), 9999, false}, {9, list(1, 1, 1, 0, 0), 9999, false}, {9, nil, 9999, false}, {24, list(1, 1, 1, 0), 9999, false}, {-1, list(1, 1, 1, 0), 9999, false},
	} {
		if bill.ProvePurchase(prices(), need, x.hour, x.purchase, x.cost) != x.want {
			t.Errorf("ProvePurchase of %v at %d for %d: not %v", x.purchase, x.hour, x.cost, x.want)
		}
	}
	// Nothing is bought at an hour of the day only, and of an amount.
	for _, l := range [][]bill.Offer{nil, prices()} {
		nothing := make([]int, len(l))
		for hour := -2; hour < 27; hour++ {
			if bill.ProvePurchase(l, each(0), hour, nothing, 0) != (hour >= 0 && hour <= 23) {
				t.Errorf("ProvePurchase of nothing at %d", hour)
			}
		}
		for _, need := range []bill.Amount{amount(-1, 0, 0), amount(0, -1, 0), amount(0, 0, -1)} {
			if bill.ProvePurchase(l, need, 9, nothing, 0) {
				t.Errorf("ProvePurchase of %v", need)
			}
		}
	}
	if !bill.ProvePurchase(nil, each(0), 0, nil, 0) || bill.ProvePurchase(nil, each(0), 0, nil, -1) || bill.ProvePurchase(nil, each(1), 0, nil, 0) {
		t.Error("ProvePurchase of nothing")
	}
}

// P11.2: by hand: rounded down for the players from the first one on, together.
func TestShare(t *testing.T) {
	wantShare(t, 0, list(5), 0)
	wantShare(t, 0, list(1, 0, 2), 0, 0, 0)
	wantShare(t, 1000000, list(1), 1000000)
	wantShare(t, 1000000, list(1000), 1000000)
	wantShare(t, 1000000, list(1, 1, 1), 333333, 333333, 333334)
	wantShare(t, 1000000, list(1000, 1, 0, 1000), 499750, 499, 0, 499751)
	wantShare(t, 1000000, times(10, 1000), times(10, 100000)...)
	wantShare(t, 999999, times(10, 1000), 99999, 100000, 100000, 100000, 100000, 100000, 100000, 100000, 100000, 100000)
	wantShare(t, 10, list(1, 1, 1), 3, 3, 4)
	wantShare(t, 11, list(1, 1, 1), 3, 4, 4)
	wantShare(t, 1, list(1, 1, 1), 0, 0, 1)
	wantShare(t, 2, list(1, 1, 1), 0, 1, 1)
	wantShare(t, 5, times(10, 1), 0, 1, 0, 1, 0, 1, 0, 1, 0, 1)
	wantShare(t, 7, list(0, 3, 0, 0, 1, 0), 0, 5, 0, 0, 2, 0)
	wantShare(t, 1, list(1, 1000), 0, 1)
	wantShare(t, 1, list(1000, 1), 0, 1)
	wantShare(t, 1, list(1000, 0), 1, 0)
	wantShare(t, 100, list(0, 0, 0, 0, 0, 0, 0, 0, 0, 1), 0, 0, 0, 0, 0, 0, 0, 0, 0, 100)
}

// P11.3: none, one and many in a gap; P11.5: as many sales as messages tell.
func TestLost(t *testing.T) {
	for _, none := range [][]bill.Message{nil, {}} {
		wantLost(t, none)
		if sales := mustShow(t, none); len(sales) > 0 {
			t.Errorf("Shows of no messages: %v", sales)
		}
		wantProved(t, none, true)
		wantProved(t, none, false, 1)
	}
	wantLost(t, messages(message(1, 5, 5)))
	wantLost(t, messages(message(3, 2, 9), message(1, 3, 3), message(2, 4, 7)))
	wantLost(t, messages(message(2, 5, 6)), 1)
	wantLost(t, messages(message(1, 5, 5), message(3, 5, 20)), 2)
	wantLost(t, messages(message(6, 5, 100), message(4, 5, 90), message(1, 1, 1)), 2, 3, 5)
	var many []int
	for no := range 59 {
		many = append(many, no+1)
	}
	wantLost(t, messages(message(60, 1000, 60000)), many...)
	wantLost(t, messages(message(60, 1, 60)), many...)
	var odd []bill.Message
	var even []int
	for i := range 30 {
		odd = append(odd, message(2*i+1, 10, 10+30*i))
		if i > 0 {
			even = append(even, 2*i)
		}
	}
	wantLost(t, odd, even...)
	if sales := mustShow(t, odd); len(sales) != 59 || sum(sales) != 880 {
		t.Errorf("Shows of %v: %v", odd, sales)
	}
}

// P11.4, P11.12: of one sale, within a gap, over several ones, and of all.
func TestTaken(t *testing.T) {
	// Ahead of 4 three sales of 30 together, then 7 behind two of 30 together, then 8, and 10 behind one of 1000.
	l := messages(message(7, 40, 105), message(4, 5, 35), message(8, 20, 125), message(10, 1, 1126))
	for _, x := range []struct{ from, to, low, high int }{
		{1, 1, 1, 28}, {2, 2, 1, 28}, {3, 3, 1, 28}, {1, 2, 2, 29}, {2, 3, 2, 29}, {1, 3, 30, 30}, {1, 4, 35, 35}, {2, 4, 7, 34}, {3, 4, 6, 33}, {4, 4, 5, 5},
		{5, 5, 1, 29}, {6, 6, 1, 29}, {5, 6, 30, 30}, {4, 5, 6, 34}, {4, 6, 35, 35}, {4, 7, 75, 75}, {6, 7, 41, 69}, {3, 5, 7, 62}, {2, 6, 37, 64}, {2, 5, 8, 63}, {1, 5, 36, 64}, {1, 6, 65, 65},
		{7, 7, 40, 40}, {7, 8, 60, 60}, {8, 8, 20, 20}, {9, 9, 1000, 1000}, {8, 9, 1020, 1020}, {6, 9, 1061, 1089}, {2, 9, 1097, 1124}, {10, 10, 1, 1}, {1, 9, 1125, 1125}, {1, 10, 1126, 1126}, {3, 10, 1097, 1124}, {9, 10, 1001, 1001},
	} {
		wantTaken(t, l, x.from, x.to, x.low, x.high)
	}
	// Sales of 2500 in three: none of them less than 500.
	full := messages(message(4, 100, 2600))
	wantTaken(t, full, 1, 1, 500, 1000)
	wantTaken(t, full, 1, 2, 1500, 2000)
	wantTaken(t, full, 3, 4, 600, 1100)
	// Of 1500 in three.
	half := messages(message(4, 100, 1600))
	wantTaken(t, half, 2, 2, 1, 1000)
	wantTaken(t, half, 2, 3, 500, 1499)
}

// P11.4: gaps whose sales must all be 1, or MaxBillSale, and those with a coin more, or less.
func TestNarrow(t *testing.T) {
	for _, sales := range list(1, 2, 3, 10, 59) {
		last := sales + 1
		ones, all := messages(message(last, 7, sales+7)), messages(message(last, 7, sales*1000+7))
		for from := 1; from <= sales; from++ {
			for upTo := from; upTo <= sales; upTo++ {
				n := upTo - from + 1
				wantTaken(t, ones, from, upTo, n, n)
				wantTaken(t, all, from, upTo, n*1000, n*1000)
			}
		}
		if got := mustShow(t, ones); !slices.Equal(got, append(times(sales, 1), 7)) {
			t.Errorf("Shows of %v: %v", ones, got)
		}
		if got := mustShow(t, all); !slices.Equal(got, append(times(sales, 1000), 7)) {
			t.Errorf("Shows of %v: %v", all, got)
		}
		wantContrary(t, message(last, 7, sales+6))
		wantContrary(t, message(last, 7, sales*1000+8))
		more, less := messages(message(last, 7, sales+8)), messages(message(last, 7, sales*1000+6))
		if sales > 1 {
			wantTaken(t, more, 1, 1, 1, 2)
			wantTaken(t, less, sales, sales, 999, 1000)
			wantTaken(t, more, 1, sales-1, sales-1, sales)
			wantTaken(t, less, 2, sales, (sales-1)*1000-1, (sales-1)*1000)
		} else {
			wantTaken(t, more, 1, 1, 2, 2)
			wantTaken(t, less, 1, 1, 999, 999)
		}
	}
}

// Messages that contradict themselves, in each way, and next to them such as do not.
func TestContrary(t *testing.T) {
	// Two of the same No.
	wantContrary(t, message(2, 30, 80), message(2, 31, 80))
	wantContrary(t, message(2, 30, 80), message(2, 30, 81))
	wantContrary(t, message(2, 30, 80), message(2, 31, 81))
	wantContrary(t, message(1, 1, 1), message(1, 2, 2))
	wantContrary(t, message(60, 1, 60), message(60, 1, 61), message(60, 1, 60))
	wantContrary(t, append(till(), message(5, 11, 201))...)
	// Too little, or too much, up to a sale.
	wantContrary(t, message(1, 5, 4))
	wantContrary(t, message(1, 5, 6))
	wantContrary(t, message(1, 1, 0))
	wantContrary(t, message(60, 1000, 0))
	wantContrary(t, message(3, 5, 6))
	wantContrary(t, message(3, 5, 2006))
	wantContrary(t, message(1, 1, 60000))
	wantContrary(t, message(60, 999, 60000))
	wantContrary(t, message(60, 1, 59))
	// From the message before.
	first := message(2, 30, 80)
	for total := 80; total <= 120; total++ {
		if total == 91 {
			wantLost(t, messages(first, message(3, 11, total)), 1)
		} else {
			wantContrary(t, first, message(3, 11, total))
		}
	}
	wantContrary(t, first, message(3, 11, 11))
	wantContrary(t, first, message(4, 11, 91))
	wantLost(t, messages(first, message(4, 11, 92)), 1, 3)
	wantLost(t, messages(first, message(4, 11, 1091)), 1, 3)
	wantContrary(t, first, message(4, 11, 1092))
	wantContrary(t, first, message(6, 11, 93))
	wantLost(t, messages(first, message(6, 11, 94)), 1, 3, 4, 5)
	wantLost(t, messages(first, message(6, 11, 3091)), 1, 3, 4, 5)
	wantContrary(t, first, message(6, 11, 3092))
	wantContrary(t, first, message(6, 11, 70))
	wantContrary(t, first, message(6, 11, 0))
	// Each two of three agree with one another but for the last ones.
	wantContrary(t, message(1, 1, 1), message(3, 1, 1002), message(5, 1, 1003))
	wantContrary(t, message(2, 1, 11), message(4, 1, 22), message(6, 1, 1024))
}

// P11.5: sales that fit, and such as do not in one thing.
func TestProveSales(t *testing.T) {
	wantProved(t, till(), true, 50, 30, 1, 109, 10)
	wantProved(t, till(), true, 50, 30, 109, 1, 10)
	wantProved(t, till(), true, 50, 30, 60, 50, 10)
	wantProved(t, till(), false, 50, 30, 60, 49, 10)
	wantProved(t, till(), false, 50, 30, 60, 51, 9)
	wantProved(t, till(), false, 49, 31, 60, 50, 10)
	wantProved(t, till(), false, 51, 30, 60, 49, 10)
	wantProved(t, till(), false, 49, 30, 60, 51, 10)
	wantProved(t, till(), false, 50, 30, 0, 110, 10)
	wantProved(t, till(), false, 50, 30, 111, -1, 10)
	wantProved(t, till(), false, 50, 30, 60, 50)
	wantProved(t, till(), false, 50, 30, 60, 50, 10, 1)
	wantProved(t, till(), false)
	wantProved(t, messages(message(3, 5, 1011)), true, 6, 1000, 5)
	wantProved(t, messages(message(3, 5, 1011)), false, 5, 1001, 5)
	wantProved(t, messages(message(60, 1000, 60000)), true, times(60, 1000)...)
	wantProved(t, messages(message(60, 1, 60)), true, times(60, 1)...)
	wantProved(t, append(till(), till()...), true, 50, 30, 60, 50, 10)
	// Messages that contradict themselves: whatever the sales are.
	wantProved(t, append(till(), message(5, 11, 200)), false, 50, 30, 60, 50, 10)
	wantProved(t, append(till(), message(5, 11, 200)), false, 50, 30, 60, 49, 11)
	wantProved(t, messages(message(1, 5, 6)), false, 5)
	wantProved(t, messages(message(1, 5, 6)), false, 6)
	wantProved(t, messages(message(2, 5, 1006)), false, 1001, 5)
	wantProved(t, messages(message(2, 5, 5)), false, 0, 5)
}

// P11.11: as many messages as may be, in any order, and the same ones several times.
func TestManyMessages(t *testing.T) {
	var l []bill.Message
	for i := range 30 {
		no := 2*((i*7)%30) + 2
		l = append(l, message(no, no, no*100))
	}
	for no := 1; no <= 59; no += 2 {
		before := (no - 1) * 100
		wantTaken(t, l, no, no, (no+1)*100-(no+1)-before, (no+1)*100-(no+1)-before)
	}
	wantTaken(t, l, 1, 60, 6000, 6000)
	wantTaken(t, l, 2, 59, 6000-60-198, 6000-60-198)
	same := times(30, message(3, 5, 50))
	wantLost(t, same, 1, 2)
	wantTaken(t, same, 2, 3, 6, 49)
	wantContrary(t, append(times(29, message(3, 5, 50)), message(3, 5, 51))...)
}
