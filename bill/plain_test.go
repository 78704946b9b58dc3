package bill_test

import (
	"math/rand"
	"slices"
	"testing"

	"kingpin/api"
	"kingpin/bill"
)

// The slow model: by the words of the chapter, and nothing of the package but its types.

// purchases visits all lists with numbers from 0 to Most.
func purchases(l []bill.Offer, visit func(purchase []int)) {
	purchase := make([]int, len(l))
	var set func(i int)
	set = func(i int) {
		if i == len(l) {
			visit(purchase)
			return
		}
		for n := range l[i].Most + 1 {
			purchase[i] = n
			set(i + 1)
		}
	}
	set(0)
}

func plainAllowed(l []bill.Offer, hour int, purchase []int) bool {
	for i, n := range purchase {
		in := l[i].Hours.Lo <= hour && hour <= l[i].Hours.Hi
		if n < 0 || n > l[i].Most || n > 0 && !in {
			return false
		}
	}
	return true
}

func plainCovers(l []bill.Offer, need bill.Amount, purchase []int) bool {
	games, quarters, shoes := 0, 0, 0
	for i, n := range purchase {
		games += n * l[i].Has.Games
		quarters += n * l[i].Has.Quarters
		shoes += n * l[i].Has.Shoes
	}
	return games >= need.Games && quarters >= need.Quarters && shoes >= need.Shoes
}

func plainCost(l []bill.Offer, purchase []int) int {
	cost := 0
	for i, n := range purchase {
		cost += n * l[i].Price
	}
	return cost
}

// isBetter tells whether a purchase costs less than the best one, or as much with fewer offers, or with as many and is the lesser list.
func isBetter(cost int, purchase []int, best bought) bool {
	switch {
	case !best.is:
		return true
	case cost != best.cost:
		return cost < best.cost
	case sum(purchase) != sum(best.purchase):
		return sum(purchase) < sum(best.purchase)
	}
	return slices.Compare(purchase, best.purchase) < 0
}

func plainBest(l []bill.Offer, need bill.Amount, hour int) bought {
	var best bought
	purchases(l, func(purchase []int) {
		if !plainCovers(l, need, purchase) || !plainAllowed(l, hour, purchase) {
			return
		}
		if cost := plainCost(l, purchase); isBetter(cost, purchase, best) {
			best = bought{slices.Clone(purchase), cost, true}
		}
	})
	return best
}

// plainShare goes coin by coin: each is paid by the first player up to whom the weights reach it.
func plainShare(sum int, weights []int) []int {
	shares, all := make([]int, len(weights)), 0
	for _, weight := range weights {
		all += weight
	}
	for coin := 1; coin <= sum; coin++ {
		upTo := 0
		for i, weight := range weights {
			upTo += weight
			if sum*upTo >= coin*all {
				shares[i]++
				break
			}
		}
	}
	return shares
}

func plainGreatest(l []bill.Message) int {
	no := 0
	for _, m := range l {
		no = max(no, m.No)
	}
	return no
}

func plainLost(l []bill.Message) []int {
	var lost []int
	for no := 1; no <= plainGreatest(l); no++ {
		if !slices.ContainsFunc(l, func(m bill.Message) bool { return m.No == no }) {
			lost = append(lost, no)
		}
	}
	return lost
}

func plainFit(l []bill.Message, sales []int) bool {
	if len(sales) != plainGreatest(l) {
		return false
	}
	for _, coins := range sales {
		if coins < 1 || coins > 1000 {
			return false
		}
	}
	for _, m := range l {
		if sales[m.No-1] != m.Coins || sum(sales[:m.No]) != m.Total {
			return false
		}
	}
	return true
}

// bounds has for each two numbers the most that all sales up to the second one have taken more than all up to the first one.
type bounds [][]int

const unbounded = 1 << 40

// bound is of what the messages, and each sale alone, say; then of that what it says together.
func bound(l []bill.Message) bounds {
	n := plainGreatest(l) + 1
	b := make(bounds, n)
	for i := range b {
		b[i] = times(n, unbounded)
		b[i][i] = 0
	}
	says := func(from, to, low, high int) {
		b[from][to], b[to][from] = min(b[from][to], high), min(b[to][from], -low)
	}
	for i := 1; i < n; i++ {
		says(i-1, i, 1, 1000)
	}
	for _, m := range l {
		says(m.No-1, m.No, m.Coins, m.Coins)
		says(0, m.No, m.Total, m.Total)
	}
	for k := range b {
		for i := range b {
			for j := range b {
				b[i][j] = min(b[i][j], b[i][k]+b[k][j])
			}
		}
	}
	return b
}

func (b bounds) contradict() bool {
	for i := range b {
		if b[i][i] < 0 {
			return true
		}
	}
	return false
}

func (b bounds) taken(from, upTo int) bill.Range { return to(-b[upTo][from-1], b[from-1][upTo]) }

// sales is the list in which all sales up to each one took the most.
func (b bounds) sales() []int {
	var sales []int
	for i := 1; i < len(b); i++ {
		sales = append(sales, b[0][i]-b[0][i-1])
	}
	return sales
}

// at has the sales from the one number to the other one take so much.
func (b bounds) at(from, to, coins int) bounds {
	own := bounds{}
	for i := range b {
		own = append(own, slices.Clone(b[i]))
		for j := range b {
			own[i][j] = min(own[i][j], b[i][from-1]+coins+b[to][j], b[i][to]-coins+b[from-1][j])
		}
	}
	return own
}

// allSales visits all that fit, of so few coins that they can be gone through.
func allSales(l []bill.Message, visit func(sales []int)) {
	last, coins := plainGreatest(l), 0
	for _, m := range l {
		coins = max(coins, m.Total)
	}
	var sales []int
	var next func(rest int)
	next = func(rest int) {
		if len(sales) == last {
			if plainFit(l, sales) {
				visit(sales)
			}
			return
		}
		for n := 1; n <= min(rest, 1000); n++ {
			sales = append(sales, n)
			next(rest - n)
			sales = sales[:len(sales)-1]
		}
	}
	next(coins)
}

func someNumber(r *rand.Rand, low, high int) int { return low + r.Intn(high-low+1) }

func someAmount(r *rand.Rand, most int) bill.Amount {
	if r.Intn(4) == 0 {
		return each(list(0, most)[r.Intn(2)])
	}
	return amount(r.Intn(most+1), r.Intn(most+1), r.Intn(most+1))
}

func someHours(r *rand.Rand) bill.Range {
	low, high := r.Intn(24), r.Intn(24)
	if r.Intn(2) == 0 {
		return allDay()
	}
	return []bill.Range{to(low, low), to(min(low, high), max(low, high)), to(0, high), to(low, 23)}[r.Intn(4)]
}

// someTariff has prices that are alike, or anything, and often offers of one kind of thing alone.
func someTariff(r *rand.Rand, most int, offers int) []bill.Offer {
	var l []bill.Offer
	prices := list(1, 3, 20, 10000)[r.Intn(4)]
	for range offers {
		has := someAmount(r, 1+r.Intn(4))
		if r.Intn(3) == 0 {
			has = []bill.Amount{amount(1, 0, 0), amount(0, 1, 0), amount(0, 0, 1), amount(2, 0, 0), amount(0, 12, 0), amount(3, 2, 1)}[r.Intn(6)]
		}
		l = append(l, offer(r.Intn(prices+1), has, someHours(r), list(most, r.Intn(most+1))[r.Intn(2)]))
	}
	return l
}

// someWeights are alike, far apart, or anything, with some of 0.
func someWeights(r *rand.Rand) []int {
	var weights []int
	most := list(1, 3, 20, 1000)[r.Intn(4)]
	for range 1 + r.Intn(10) {
		weights = append(weights, list(r.Intn(most+1), r.Intn(most+1), most, 0)[r.Intn(4)])
	}
	if sum(weights) == 0 {
		weights[r.Intn(len(weights))] = 1 + r.Intn(most)
	}
	return weights
}

// someSales are few coins each, many, or anything.
func someSales(r *rand.Rand, many int) []int {
	var sales []int
	near := []bill.Range{to(1, 1), to(1, 2), to(1, 9), to(1, 1000), to(990, 1000), to(999, 1000), to(1000, 1000)}
	in := near[r.Intn(len(near))]
	for range many {
		if r.Intn(8) == 0 {
			in = near[r.Intn(len(near))]
		}
		sales = append(sales, someNumber(r, in.Lo, in.Hi))
	}
	return sales
}

func messageOf(sales []int, no int) bill.Message {
	return message(no, sales[no-1], sum(sales[:no]))
}

// someMessages tell of some of the sales, in any order, and sometimes several times.
func someMessages(r *rand.Rand, sales []int) []bill.Message {
	var l []bill.Message
	if len(sales) == 0 {
		return l
	}
	often := 1 + r.Intn(8)
	for _, i := range r.Perm(len(sales)) {
		if len(l) < 30 && r.Intn(often) == 0 {
			l = append(l, messageOf(sales, i+1))
		}
	}
	if len(l) > 0 && len(l) < 30 && r.Intn(3) == 0 {
		l = append(l, l[r.Intn(len(l))])
	}
	return l
}

// altered is the messages with something in one of them otherwise.
func altered(r *rand.Rand, l []bill.Message) []bill.Message {
	l = slices.Clone(l)
	if len(l) == 0 {
		return l
	}
	i := r.Intn(len(l))
	by := list(-1, 1, -1000, 1000, -999, r.Intn(21)-10)[r.Intn(6)]
	switch r.Intn(4) {
	case 0:
		l[i].Coins = min(max(l[i].Coins+by, 1), 1000)
	case 1:
		l[i].Total = min(max(l[i].Total+by, 0), 60000)
	case 2:
		l[i].No = someNumber(r, 1, 60)
	default:
		l[i].Coins, l[i].Total = min(max(l[i].Coins+by, 1), 1000), min(max(l[i].Total+by, 0), 60000)
	}
	return l
}

// some is two numbers of sales up to this one, the first one at most the second one.
func some(r *rand.Rand, last int) (from, upTo int) {
	from = 1 + r.Intn(last)
	return from, someNumber(r, from, last)
}

// count counts what is not so first, then what is.
func count(kinds []int, is bool) {
	if is {
		kinds[1]++
	} else {
		kinds[0]++
	}
}

// wantMany tells if a test by chance has not met all kinds of cases.
func wantMany(t *testing.T, least int, kinds ...[2]int) {
	t.Helper()
	for _, kind := range kinds {
		if slices.Min(kind[:]) < least {
			t.Errorf("too few of some kind: %v", kinds)
		}
	}
}

func wantPlainBest(t *testing.T, l []bill.Offer, need bill.Amount, hour int) bought {
	t.Helper()
	got, want := bestOf(t, l, need, hour), plainBest(l, need, hour)
	if got.is != want.is || got.cost != want.cost || !slices.Equal(got.purchase, want.purchase) {
		t.Fatalf("Best of %v, %v at %d: %v, not %v", l, need, hour, got, want)
	}
	return got
}

// P11.1, P11.6: small tariffs by chance against all purchases, and a few of as many offers as may be.
func TestBestByChance(t *testing.T) {
	r := rand.New(rand.NewSource(1))
	var found, more [2]int
	for range 4000 {
		l := someTariff(r, 1+r.Intn(4), r.Intn(6))
		got := wantPlainBest(t, l, someAmount(r, 1+r.Intn(12)), r.Intn(24))
		count(found[:], got.is)
		count(more[:], sum(got.purchase) > 2)
	}
	for range 300 {
		wantPlainBest(t, someTariff(r, 12, r.Intn(4)), someAmount(r, 12), r.Intn(24))
	}
	for range 3 {
		wantPlainBest(t, someTariff(r, 12, 6), someAmount(r, 12), 12)
	}
	wantMany(t, 200, found, more)
}

// P11.1: all purchases of a tariff, and lists that are none.
func TestProvePurchaseByChance(t *testing.T) {
	r := rand.New(rand.NewSource(2))
	var proved, dear [2]int
	for range 600 {
		l := someTariff(r, 3, r.Intn(5))
		need, hour := someAmount(r, 1+r.Intn(4)), r.Intn(24)
		purchases(l, func(purchase []int) {
			cost := plainCost(l, purchase)
			paid := cost + r.Intn(4) - 1
			right := plainAllowed(l, hour, purchase) && plainCovers(l, need, purchase)
			if bill.ProvePurchase(l, need, hour, purchase, paid) != (right && paid >= cost) {
				t.Fatalf("ProvePurchase of %v, %v at %d, %v for %d: not %v", l, need, hour, purchase, paid, right && paid >= cost)
			}
			count(proved[:], right && paid >= cost)
			if right {
				count(dear[:], paid < cost)
			}
			bad := append(slices.Clone(purchase), list(0, 1, -1)[r.Intn(3)])
			if bill.ProvePurchase(l, need, hour, bad, 1<<40) {
				t.Fatalf("ProvePurchase of %v, %v, %v", l, need, bad)
			}
			if len(l) > 0 {
				i := r.Intn(len(l))
				bad = bad[:len(l)]
				bad[i] = list(-1, l[i].Most+1, 1<<62, -1<<62)[r.Intn(4)]
				if bill.ProvePurchase(l, need, hour, bad, 1<<62) || bill.ProvePurchase(l, need, hour, bad[1:], 1<<62) {
					t.Fatalf("ProvePurchase of %v, %v, %v", l, need, bad)
				}
			}
		})
	}
	wantMany(t, 500, proved, dear)
}

// P11.2: sums of up to some thousands, coin by coin.
func TestShareByChance(t *testing.T) {
	r := rand.New(rand.NewSource(3))
	for range 4000 {
		sum, weights := r.Intn(list(3, 30, 4000)[r.Intn(3)]), someWeights(r)
		wantShare(t, sum, weights, plainShare(sum, weights)...)
	}
	for range 5 {
		weights := someWeights(r)
		wantShare(t, 1000000, weights, plainShare(1000000, weights)...)
	}
}

// wantPlainTill asks for all of the till but what ranges are reached, and tells whether some sales fit.
func wantPlainTill(t *testing.T, r *rand.Rand, l []bill.Message) bool {
	t.Helper()
	b := bound(l)
	if b.contradict() {
		wantContrary(t, l...)
		return false
	}
	wantLost(t, l, plainLost(l)...)
	if sales := mustShow(t, l); !plainFit(l, sales) {
		t.Fatalf("Shows of %v: %v", l, sales)
	}
	if last := plainGreatest(l); last > 0 {
		for range 12 {
			from, upTo := some(r, last)
			want := b.taken(from, upTo)
			wantTaken(t, l, from, upTo, want.Lo, want.Hi)
		}
	}
	return true
}

// P11.3 to P11.5: messages of tills by chance, right ones and others.
func TestTillByChance(t *testing.T) {
	r := rand.New(rand.NewSource(4))
	var fits, full [2]int
	for range 1500 {
		l := someMessages(r, someSales(r, r.Intn(61)))
		if !wantPlainTill(t, r, l) {
			t.Fatalf("%v contradict themselves", l)
		}
		count(full[:], len(l) == 30)
		for range 2 {
			l = altered(r, l)
			count(fits[:], wantPlainTill(t, r, l))
		}
	}
	wantMany(t, 50, fits, full)
}

// P11.3 to P11.5, P11.10: tills of a few coins, and all sales that fit.
func TestAllSales(t *testing.T) {
	r := rand.New(rand.NewSource(5))
	var fits, wide [2]int
	for range 1500 {
		var coins []int
		for range 1 + r.Intn(6) {
			coins = append(coins, 1+r.Intn(3))
		}
		l := someMessages(r, coins)
		if r.Intn(3) == 0 {
			l = altered(r, l)
		}
		last := plainGreatest(l)
		if last > 6 || slices.ContainsFunc(l, func(m bill.Message) bool { return m.Total > 20 }) {
			continue
		}
		var all [][]int
		allSales(l, func(sales []int) { all = append(all, slices.Clone(sales)) })
		count(fits[:], len(all) > 0)
		if len(all) == 0 {
			wantContrary(t, l...)
			continue
		}
		mustShow(t, l)
		for from := 1; from <= last; from++ {
			for upTo := from; upTo <= last; upTo++ {
				var taken []int
				for _, sales := range all {
					taken = append(taken, sum(sales[from-1:upTo]))
				}
				wantTaken(t, l, from, upTo, slices.Min(taken), slices.Max(taken))
				count(wide[:], slices.Min(taken) < slices.Max(taken))
			}
		}
	}
	wantMany(t, 100, fits, wide)
}

// P11.5: sales that fit, and others, against the chapter's words.
func TestProveSalesByChance(t *testing.T) {
	r := rand.New(rand.NewSource(6))
	var proved [2]int
	for range 4000 {
		sales := someSales(r, r.Intn(61))
		l := someMessages(r, sales)
		sales = slices.Clone(sales[:plainGreatest(l)])
		if len(sales) > 0 && r.Intn(2) == 0 {
			i, j, by := r.Intn(len(sales)), r.Intn(len(sales)), list(1, -1, 0, 1000)[r.Intn(4)]
			sales[i], sales[j] = sales[i]+by, sales[j]-by
		}
		if r.Intn(10) == 0 {
			sales = sales[:len(sales)/2]
		}
		if r.Intn(10) == 0 {
			l = altered(r, l)
		}
		want := plainFit(l, sales)
		if bill.ProveSales(l, sales) != want {
			t.Fatalf("ProveSales of %v, %v: not %v", l, sales, want)
		}
		count(proved[:], want)
	}
	wantMany(t, 500, proved)
}

// isIn tells whether the number is from low to high.
func isIn(n, low, high int) bool { return low <= n && n <= high }

func plainAmount(a bill.Amount) bool {
	return isIn(a.Games, 0, 12) && isIn(a.Quarters, 0, 12) && isIn(a.Shoes, 0, 12)
}

func plainTariffError(l []bill.Offer) api.Errno {
	if len(l) > 6 {
		return api.ErrLimit
	}
	for _, o := range l {
		if !isIn(o.Price, 0, 10000) || !plainAmount(o.Has) || !isIn(o.Hours.Lo, 0, o.Hours.Hi) || !isIn(o.Hours.Hi, 0, 23) || !isIn(o.Most, 0, 12) {
			return api.ErrArg
		}
	}
	return api.OK
}

func plainBestError(l []bill.Offer, need bill.Amount, hour int) api.Errno {
	switch {
	case plainTariffError(l) != api.OK:
		return plainTariffError(l)
	case !plainAmount(need) || !isIn(hour, 0, 23):
		return api.ErrRange
	}
	// All that may be bought at the hour is the most that can be covered.
	var most []int
	for _, o := range l {
		if isIn(hour, o.Hours.Lo, o.Hours.Hi) {
			most = append(most, o.Most)
		} else {
			most = append(most, 0)
		}
	}
	if !plainCovers(l, need, most) {
		return api.ErrFail
	}
	return api.OK
}

func plainShareError(sum int, weights []int) api.Errno {
	if len(weights) > 10 {
		return api.ErrLimit
	}
	positive := false
	for _, weight := range weights {
		if !isIn(weight, 0, 1000) {
			return api.ErrRange
		}
		positive = positive || weight > 0
	}
	switch {
	case !isIn(sum, 0, 1000000):
		return api.ErrRange
	case !positive:
		return api.ErrNone
	}
	return api.OK
}

func plainMessagesError(l []bill.Message) api.Errno {
	if len(l) > 30 {
		return api.ErrLimit
	}
	for _, m := range l {
		if !isIn(m.No, 1, 60) || !isIn(m.Coins, 1, 1000) || !isIn(m.Total, 0, 60000) {
			return api.ErrArg
		}
	}
	if bound(l).contradict() {
		return api.ErrFail
	}
	return api.OK
}

func plainTakenError(l []bill.Message, from, to int) api.Errno {
	if e := plainMessagesError(l); e != api.OK {
		return e
	}
	if !isIn(from, 1, plainGreatest(l)) || !isIn(to, 1, plainGreatest(l)) || from > to {
		return api.ErrRange
	}
	return api.OK
}

// plainErrors is the error of each call, in the order of the section Errors.
func (x asked) plainErrors() map[string]api.Errno {
	ofMessages := plainMessagesError(x.messages)
	return map[string]api.Errno{
		"CheckTariff":   plainTariffError(x.tariff),
		"Best":          plainBestError(x.tariff, x.need, x.hour),
		"ProvePurchase": api.OK,
		"Share":         plainShareError(x.sum, x.weights),
		"Lost":          ofMessages,
		"Taken":         plainTakenError(x.messages, x.from, x.to),
		"Shows":         ofMessages,
		"ProveSales":    api.OK,
	}
}

// plainProofs is what the calls without errors report.
func (x asked) plainProofs() (purchase, sales bool) {
	isTariff := plainTariffError(x.tariff) == api.OK && plainAmount(x.need) && isIn(x.hour, 0, 23) && len(x.purchase) == len(x.tariff)
	isTill := len(x.messages) <= 30 && plainMessagesError(x.messages) == api.OK
	return isTariff && plainAllowed(x.tariff, x.hour, x.purchase) && plainCovers(x.tariff, x.need, x.purchase) && plainCost(x.tariff, x.purchase) <= x.cost, isTill && plainFit(x.messages, x.sales)
}
