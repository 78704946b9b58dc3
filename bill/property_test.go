package bill_test

import (
	"math/rand"
	"slices"
	"testing"

	"kingpin/api"
	"kingpin/bill"
)

// P11.6: against all purchases that ProvePurchase takes.
func TestNoCheaper(t *testing.T) {
	r := rand.New(rand.NewSource(11))
	var proved, found [2]int
	for range 1500 {
		l := someTariff(r, 1+r.Intn(4), r.Intn(6))
		need, hour := someAmount(r, 1+r.Intn(8)), r.Intn(24)
		best := bestOf(t, l, need, hour)
		purchases(l, func(purchase []int) {
			cost := plainCost(l, purchase)
			is := bill.ProvePurchase(l, need, hour, purchase, cost)
			if is && isBetter(cost, purchase, best) {
				t.Fatalf("Best of %v, %v at %d: %v, but %v for %d", l, need, hour, best, purchase, cost)
			}
			count(proved[:], is)
		})
		count(found[:], best.is)
	}
	wantMany(t, 200, proved, found)
}

// isDearer tells whether a best purchase costs more than another one, or there is none.
func (b bought) isDearer(than bought) bool { return than.is && (!b.is || b.cost > than.cost) }

func lesser(r *rand.Rand, a bill.Amount) bill.Amount {
	return amount(r.Intn(a.Games+1), r.Intn(a.Quarters+1), r.Intn(a.Shoes+1))
}

// P11.7: a lesser amount, one offer more, a greater Most.
func TestMoreAndLess(t *testing.T) {
	r := rand.New(rand.NewSource(12))
	var less, more, most [2]int
	for range 3000 {
		l := someTariff(r, 1+r.Intn(12), r.Intn(6))
		need, hour := someAmount(r, 1+r.Intn(12)), r.Intn(24)
		best := bestOf(t, l, need, hour)
		other := lesser(r, need)
		ofLess := bestOf(t, l, other, hour)
		if ofLess.isDearer(best) {
			t.Fatalf("Best of %v, %v at %d: %v, of %v: %v", l, need, hour, best, other, ofLess)
		}
		one := slices.Insert(slices.Clone(l), r.Intn(len(l)+1), someTariff(r, 12, 1)...)
		ofMore := bestOf(t, one, need, hour)
		if ofMore.isDearer(best) {
			t.Fatalf("Best of %v, %v at %d: %v, of %v: %v", l, need, hour, best, one, ofMore)
		}
		count(less[:], best.isDearer(ofLess))
		count(more[:], best.isDearer(ofMore))
		if len(l) > 0 {
			oftener := slices.Clone(l)
			i := r.Intn(len(l))
			oftener[i].Most = someNumber(r, l[i].Most, 12)
			ofMost := bestOf(t, oftener, need, hour)
			if ofMost.isDearer(best) {
				t.Fatalf("Best of %v, %v at %d: %v, of %v: %v", l, need, hour, best, oftener, ofMost)
			}
			count(most[:], best.isDearer(ofMost))
		}
	}
	wantMany(t, 100, less, more, most)
}

// P11.7: two amounts together, and apart.
func TestTogether(t *testing.T) {
	r := rand.New(rand.NewSource(13))
	var cheaper, found [2]int
	for range 3000 {
		l := someTariff(r, 12, r.Intn(7))
		for i := range l {
			l[i].Most = 12
		}
		both := someAmount(r, 12)
		one := lesser(r, both)
		other := amount(both.Games-one.Games, both.Quarters-one.Quarters, both.Shoes-one.Shoes)
		hour := r.Intn(24)
		a, b, together := bestOf(t, l, one, hour), bestOf(t, l, other, hour), bestOf(t, l, plus(one, other), hour)
		if a.is && b.is && (!together.is || together.cost > a.cost+b.cost) {
			t.Fatalf("Best of %v, %v, %v and together: %v, %v, %v", l, one, other, a, b, together)
		}
		count(found[:], together.is)
		count(cheaper[:], together.is && together.cost < a.cost+b.cost)
	}
	wantMany(t, 300, cheaper, found)
}

// P11.8: to the coin.
func TestToTheCoin(t *testing.T) {
	r := rand.New(rand.NewSource(14))
	var exact, none [2]int
	for range 5000 {
		coins, weights := r.Intn(list(3, 300, 1000001)[r.Intn(3)]), someWeights(r)
		if r.Intn(5) == 0 {
			coins = 1000000
		}
		shares, all := mustShare(t, coins, weights), sum(weights)
		if len(shares) != len(weights) || sum(shares) != coins {
			t.Fatalf("Share of %d by %v: %v", coins, weights, shares)
		}
		for i, share := range shares {
			// How much the share differs, times all weights.
			off := share*all - coins*weights[i]
			if off <= -all || off >= all || weights[i] == 0 && share != 0 {
				t.Fatalf("Share of %d by %v: %v", coins, weights, shares)
			}
			// And all from the first one on: rounded down.
			upTo := sum(shares[:i+1])*all - coins*sum(weights[:i+1])
			if upTo > 0 || upTo <= -all {
				t.Fatalf("Share of %d by %v: %v", coins, weights, shares)
			}
			count(exact[:], off == 0)
			count(none[:], weights[i] == 0)
		}
	}
	wantMany(t, 1000, exact, none)
}

// P11.9: a weight that is divided between two.
func TestInParts(t *testing.T) {
	r := rand.New(rand.NewSource(15))
	var uneven [2]int
	for range 4000 {
		coins, weights := r.Intn(list(3, 300, 1000001)[r.Intn(3)]), someWeights(r)
		if len(weights) == 10 {
			continue
		}
		shares := mustShare(t, coins, weights)
		i := r.Intn(len(weights))
		first := someNumber(r, 0, weights[i])
		parts := mustShare(t, coins, slices.Concat(weights[:i], list(first, weights[i]-first), weights[i+1:]))
		if !slices.Equal(parts[:i], shares[:i]) || parts[i]+parts[i+1] != shares[i] || !slices.Equal(parts[i+2:], shares[i+1:]) {
			t.Fatalf("Share of %d by %v: %v, the weight %d in parts: %v", coins, weights, shares, i, parts)
		}
		count(uneven[:], parts[i] != parts[i+1])
	}
	wantMany(t, 300, uneven)
}

// P11.10: sales that fit are in the ranges, and each end is reached by some.
func TestWhateverWasSold(t *testing.T) {
	r := rand.New(rand.NewSource(16))
	var wide, apart [2]int
	for range 1500 {
		sales := someSales(r, 1+r.Intn(60))
		l := someMessages(r, sales)
		last := plainGreatest(l)
		if last == 0 {
			continue
		}
		shown, b := mustShow(t, l), bound(l)
		wantProved(t, l, true, sales[:last]...)
		for range 6 {
			from, upTo := some(r, last)
			taken := mustTake(t, l, from, upTo)
			for _, fits := range [][]int{shown, sales} {
				if coins := sum(fits[from-1 : upTo]); !isIn(coins, taken.Lo, taken.Hi) {
					t.Fatalf("Taken of %v from %d to %d: %v, but %d in %v", l, from, upTo, taken, coins, fits)
				}
			}
			for _, coins := range list(taken.Lo, taken.Hi) {
				reach := b.at(from, upTo, coins).sales()
				if !bill.ProveSales(l, reach) || sum(reach[from-1:upTo]) != coins {
					t.Fatalf("Taken of %v from %d to %d: %v, but %d is not reached by %v", l, from, upTo, taken, coins, reach)
				}
			}
			count(wide[:], taken.Lo < taken.Hi)
			count(apart[:], sum(shown[from-1:upTo]) != sum(sales[from-1:upTo]))
		}
	}
	wantMany(t, 500, wide, apart)
}

// P11.11: one message less.
func TestLess(t *testing.T) {
	r := rand.New(rand.NewSource(17))
	var wider, fits, mended [2]int
	for range 3000 {
		l := someMessages(r, someSales(r, r.Intn(61)))
		if r.Intn(3) == 0 {
			l = altered(r, l)
		}
		if len(l) == 0 {
			continue
		}
		i := r.Intn(len(l))
		less := slices.Delete(slices.Clone(l), i, i+1)
		_, e := bill.Lost(l)
		_, f := bill.Lost(less)
		if e == api.OK && f != api.OK {
			t.Fatalf("Lost of %v: %v, without %v: %v", l, e, l[i], f)
		}
		count(fits[:], e == api.OK)
		count(mended[:], e != api.OK && f == api.OK)
		if last := plainGreatest(less); e == api.OK && last > 0 {
			for range 4 {
				from, upTo := some(r, last)
				taken, other := mustTake(t, l, from, upTo), mustTake(t, less, from, upTo)
				if other.Lo > taken.Lo || other.Hi < taken.Hi {
					t.Fatalf("Taken of %v from %d to %d: %v, without %v: %v", l, from, upTo, taken, l[i], other)
				}
				count(wider[:], other != taken)
			}
		}
	}
	wantMany(t, 100, wider, fits, mended)
}

// P11.11: in another order, and some twice.
func TestAnyOrder(t *testing.T) {
	r := rand.New(rand.NewSource(18))
	var fits, again [2]int
	for range 3000 {
		sales := someSales(r, r.Intn(61))
		l := someMessages(r, sales)
		if r.Intn(3) == 0 {
			l = altered(r, l)
		}
		other := slices.Clone(l)
		for len(other) > 0 && len(other) < 30 && r.Intn(3) > 0 {
			other = append(other, other[r.Intn(len(other))])
		}
		r.Shuffle(len(other), func(i, j int) { other[i], other[j] = other[j], other[i] })
		x := asked{messages: l, from: 1 + r.Intn(60), sales: sales[:min(plainGreatest(l), len(sales))]}
		x.to = someNumber(r, x.from, 60)
		y := x
		y.messages = other
		first, second := x.calls(), y.calls()
		for _, call := range []string{"Lost", "Taken", "Shows", "ProveSales"} {
			if !first[call].same(second[call]) {
				t.Fatalf("%s of %v, in another order %v: %v, %v", call, l, other, first[call], second[call])
			}
		}
		count(fits[:], first["Lost"].e == api.OK)
		count(again[:], len(other) > len(l))
	}
	wantMany(t, 200, fits, again)
}

// P11.12: what is known, and two stretches that follow each other.
func TestKnown(t *testing.T) {
	r := rand.New(rand.NewSource(19))
	var known, tight [2]int
	for range 3000 {
		sales := someSales(r, 1+r.Intn(60))
		l := someMessages(r, sales)
		last := plainGreatest(l)
		if last == 0 {
			continue
		}
		m := l[r.Intn(len(l))]
		wantTaken(t, l, 1, m.No, m.Total, m.Total)
		wantTaken(t, l, m.No, m.No, m.Coins, m.Coins)
		lost := plainLost(l)
		isLost := func(no int) bool { return slices.Contains(lost, no) }
		for range 4 {
			from, upTo := some(r, last)
			taken := mustTake(t, l, from, upTo)
			all := !slices.ContainsFunc(lost, func(no int) bool { return isIn(no, from, upTo) })
			if coins := sum(sales[from-1 : upTo]); all && (taken.Lo != coins || taken.Hi != coins) {
				t.Fatalf("Taken of %v from %d to %d: %v, not %d", l, from, upTo, taken, coins)
			}
			if from < upTo {
				at := someNumber(r, from, upTo-1)
				a, b := mustTake(t, l, from, at), mustTake(t, l, at+1, upTo)
				if taken.Lo < a.Lo+b.Lo || taken.Hi > a.Hi+b.Hi {
					t.Fatalf("Taken of %v from %d, %d to %d: %v, %v, %v", l, from, at, upTo, a, b, taken)
				}
				count(tight[:], isLost(at) && taken != to(a.Lo+b.Lo, a.Hi+b.Hi))
			}
			count(known[:], all)
		}
	}
	wantMany(t, 300, known, tight)
}
