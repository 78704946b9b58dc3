package bill_test

import (
	"math"
	"math/rand"
	"reflect"
	"slices"
	"testing"

	"kingpin/api"
	"kingpin/bill"
)

// asked is all that calls may be given.
type asked struct {
	tariff   []bill.Offer
	need     bill.Amount
	hour     int
	purchase []int
	cost     int
	sum      int
	weights  []int
	messages []bill.Message
	from, to int
	sales    []int
}

type answer struct {
	e       api.Errno
	results []any
}

func (x asked) calls() map[string]answer {
	purchase, cost, e1 := bill.Best(x.tariff, x.need, x.hour)
	shares, e2 := bill.Share(x.sum, x.weights)
	lost, e3 := bill.Lost(x.messages)
	taken, e4 := bill.Taken(x.messages, x.from, x.to)
	sales, e5 := bill.Shows(x.messages)
	return map[string]answer{
		"CheckTariff":   {bill.CheckTariff(x.tariff), nil},
		"Best":          {e1, []any{purchase, cost}},
		"ProvePurchase": {api.OK, []any{bill.ProvePurchase(x.tariff, x.need, x.hour, x.purchase, x.cost)}},
		"Share":         {e2, []any{shares}},
		"Lost":          {e3, []any{lost}},
		"Taken":         {e4, []any{taken}},
		"Shows":         {e5, []any{sales}},
		"ProveSales":    {api.OK, []any{bill.ProveSales(x.messages, x.sales)}},
	}
}

func (a answer) same(b answer) bool { return reflect.DeepEqual(a, b) }

func isNothing(results []any) bool {
	for _, result := range results {
		v := reflect.ValueOf(result)
		if !v.IsZero() && (v.Kind() != reflect.Slice || v.Len() > 0) {
			return false
		}
	}
	return true
}

// wantErrors asks all calls: those named have the error, and no result; the others have none.
func (x asked) wantErrors(t *testing.T, want api.Errno, calls ...string) {
	t.Helper()
	for call, a := range x.calls() {
		expected := api.OK
		if slices.Contains(calls, call) {
			expected = want
		}
		if a.e != expected {
			t.Errorf("%s of %v: %v, not %v", call, x, a.e, expected)
		}
		if a.e != api.OK && !isNothing(a.results) {
			t.Errorf("%s of %v: %v with %v", call, x, a.results, a.e)
		}
	}
}

// wantPlain asks all calls for their errors, and the proofs, by the model.
func (x asked) wantPlain(t *testing.T) {
	t.Helper()
	answers := x.calls()
	for call, want := range x.plainErrors() {
		a := answers[call]
		if a.e != want || a.e != api.OK && !isNothing(a.results) {
			t.Fatalf("%s of %v: %v, %v, not %v", call, x, a.results, a.e, want)
		}
	}
	purchase, sales := x.plainProofs()
	if answers["ProvePurchase"].results[0] != any(purchase) || answers["ProveSales"].results[0] != any(sales) {
		t.Fatalf("ProvePurchase, ProveSales of %v: not %v, %v", x, purchase, sales)
	}
}

// good has no error in any call, and some result in each.
func good() asked {
	return asked{prices(), amount(4, 1, 3), 12, list(4, 0, 0, 1), 9999, 100, list(2, 0, 1), till(), 2, 4, list(50, 30, 60, 50, 10)}
}

// change makes something of what was asked otherwise; each has memory of its own, so that it may write to it.
type change func(x *asked)

func (x asked) changed(changes ...change) asked {
	x = x.roomy()
	for _, c := range changes {
		c(&x)
	}
	return x
}

func edges() []int {
	return []int{math.MinInt, math.MinInt + 1, -256, -2, -1, 60001, 1000001, math.MaxInt - 1, math.MaxInt}
}

// outside changes a number to what is just not from low to high, or far from it.
func outside(of func(x *asked) *int, low, high int) []change {
	var changes []change
	for _, n := range append(edges(), low-1, high+1) {
		if !isIn(n, low, high) {
			changes = append(changes, func(x *asked) { *of(x) = n })
		}
	}
	return changes
}

var (
	tariffCalls  = []string{"CheckTariff", "Best"}
	messageCalls = []string{"Lost", "Taken", "Shows"}
)

func tooManyOffers() []change {
	var changes []change
	for _, many := range list(7, 8, 1000) {
		changes = append(changes,
			func(x *asked) { x.tariff = times(many, offer(1, each(12), allDay(), 12)) },
			func(x *asked) { x.tariff = times(many, offer(-1, each(13), to(1, 0), 13)) },
			func(x *asked) { x.tariff, x.purchase = make([]bill.Offer, many), make([]int, many) })
	}
	return changes
}

// noTariff makes one thing each of an offer what it may not be.
func noTariff() []change {
	var changes []change
	for i := range 4 {
		changes = slices.Concat(changes,
			outside(func(x *asked) *int { return &x.tariff[i].Price }, 0, 10000),
			outside(func(x *asked) *int { return &x.tariff[i].Has.Games }, 0, 12),
			outside(func(x *asked) *int { return &x.tariff[i].Has.Quarters }, 0, 12),
			outside(func(x *asked) *int { return &x.tariff[i].Has.Shoes }, 0, 12),
			outside(func(x *asked) *int { return &x.tariff[i].Most }, 0, 12),
			outside(func(x *asked) *int { return &x.tariff[i].Hours.Lo }, 0, 23),
			outside(func(x *asked) *int { return &x.tariff[i].Hours.Hi }, 0, 23))
		for _, hours := range []bill.Range{to(1, 0), to(23, 0), to(13, 12), to(23, 22), to(24, 24), to(-1, -1), to(24, 23)} {
			changes = append(changes, func(x *asked) { x.tariff[i].Hours = hours })
		}
	}
	return changes
}

func noNeed() []change {
	return slices.Concat(
		outside(func(x *asked) *int { return &x.need.Games }, 0, 12),
		outside(func(x *asked) *int { return &x.need.Quarters }, 0, 12),
		outside(func(x *asked) *int { return &x.need.Shoes }, 0, 12),
		outside(func(x *asked) *int { return &x.hour }, 0, 23))
}

// notCovered asks for more than can be bought, or when it cannot be.
func notCovered() []change {
	return []change{
		func(x *asked) { x.hour = 9 },
		func(x *asked) { x.hour = 16 },
		func(x *asked) { x.need.Quarters = 5 },
		func(x *asked) { x.tariff[3].Most = 0 },
		func(x *asked) { x.tariff, x.purchase = nil, nil },
		func(x *asked) { x.tariff, x.purchase = x.tariff[:3], x.purchase[:3] },
	}
}

func tooManyWeights() []change {
	return []change{
		func(x *asked) { x.weights = make([]int, 11) },
		func(x *asked) { x.weights = times(11, 1) },
		func(x *asked) { x.weights = times(11, -1) },
		func(x *asked) { x.weights = times(1000, 1) },
	}
}

func noSum() []change {
	changes := outside(func(x *asked) *int { return &x.sum }, 0, 1000000)
	for i := range 3 {
		changes = slices.Concat(changes, outside(func(x *asked) *int { return &x.weights[i] }, 0, 1000))
	}
	return changes
}

func noWeight() []change {
	return []change{
		func(x *asked) { x.weights = nil },
		func(x *asked) { x.weights = list() },
		func(x *asked) { x.weights = list(0) },
		func(x *asked) { x.weights = make([]int, 10) },
	}
}

func tooManyMessages() []change {
	return []change{
		func(x *asked) { x.messages = make([]bill.Message, 31) },
		func(x *asked) { x.messages = times(31, message(5, 10, 200)) },
		func(x *asked) { x.messages = append(times(30, message(5, 10, 200)), message(2, 30, 80)) },
		func(x *asked) { x.messages = times(1000, message(5, 10, 200)) },
	}
}

func noMessages() []change {
	var changes []change
	for i := range 2 {
		changes = slices.Concat(changes,
			outside(func(x *asked) *int { return &x.messages[i].No }, 1, 60),
			outside(func(x *asked) *int { return &x.messages[i].Coins }, 1, 1000),
			outside(func(x *asked) *int { return &x.messages[i].Total }, 0, 60000))
	}
	return changes
}

func contrary() []change {
	with := func(m bill.Message) change {
		return func(x *asked) { x.messages = append(x.messages, m) }
	}
	return []change{
		with(message(5, 11, 200)), with(message(5, 10, 201)), with(message(2, 30, 79)), with(message(1, 51, 51)), with(message(1, 50, 51)), with(message(4, 20, 170)), with(message(3, 1, 80)), with(message(6, 10, 209)), with(message(6, 10, 211)), with(message(60, 1000, 0)),
		func(x *asked) { x.messages[0].Total = 91 },
		func(x *asked) { x.messages[0].Total = 2091 },
		func(x *asked) { x.messages[1].Total = 30 },
		func(x *asked) { x.messages[1].Total = 1031 },
		func(x *asked) { x.messages[0].No = 2 },
	}
}

// noStretch asks for numbers that are not from 1 to the greatest No, or not in their order.
func noStretch() []change {
	changes := slices.Concat(
		outside(func(x *asked) *int { return &x.from }, 1, 4),
		outside(func(x *asked) *int { return &x.to }, 2, 5),
		[]change{
			func(x *asked) { x.from, x.to = 6, 6 },
			func(x *asked) { x.from, x.to = 0, 0 },
			func(x *asked) { x.from, x.to = 5, 4 },
			func(x *asked) { x.from, x.to = math.MaxInt, math.MaxInt },
			func(x *asked) { x.from, x.to = math.MinInt, math.MinInt },
			func(x *asked) { x.from, x.to = math.MinInt, math.MaxInt },
			func(x *asked) { x.messages, x.from, x.to = nil, 1, 1 },
			func(x *asked) { x.messages, x.from, x.to = nil, 0, 0 },
			func(x *asked) { x.messages = x.messages[1:] },
		})
	return changes
}

// The rows of the section Errors, R1 and R2: each question by itself, and no other results.
func TestErrors(t *testing.T) {
	good().wantErrors(t, api.OK)
	good().wantPlain(t)
	for call, a := range good().calls() {
		if call != "CheckTariff" && isNothing(a.results) {
			t.Errorf("%s: %v", call, a.results)
		}
	}
	for _, row := range []struct {
		e       api.Errno
		changes []change
		calls   []string
		proof   string
	}{
		{api.ErrLimit, tooManyOffers(), tariffCalls, "ProvePurchase"}, {api.ErrArg, noTariff(), tariffCalls, "ProvePurchase"},
		{api.ErrRange, noNeed(), []string{"Best"}, "ProvePurchase"}, {api.ErrFail, notCovered(), []string{"Best"}, "ProvePurchase"},
		{api.ErrLimit, tooManyWeights(), []string{"Share"}, ""}, {api.ErrRange, noSum(), []string{"Share"}, ""}, {api.ErrNone, noWeight(), []string{"Share"}, ""},
		{api.ErrLimit, tooManyMessages(), messageCalls, "ProveSales"}, {api.ErrArg, noMessages(), messageCalls, "ProveSales"}, {api.ErrFail, contrary(), messageCalls, "ProveSales"},
		{api.ErrRange, noStretch(), []string{"Taken"}, ""},
	} {
		for _, c := range row.changes {
			x := good().changed(c)
			x.wantErrors(t, row.e, row.calls...)
			if row.proof != "" && !isNothing(x.calls()[row.proof].results) {
				t.Errorf("%s of %v", row.proof, x)
			}
		}
	}
}

// tryAll makes the changes; not all of them can be made behind all others.
func tryAll(changes ...change) (x asked, ok bool) {
	defer func() { ok = recover() == nil }()
	return good().changed(changes...), true
}

// R1: of several questions that apply the first one in the order of the rows.
func TestErrorOrder(t *testing.T) {
	r := rand.New(rand.NewSource(21))
	for _, rows := range [][][]change{
		{tooManyOffers(), noTariff(), noNeed(), notCovered()},
		{tooManyWeights(), noSum(), noWeight()},
		{tooManyMessages(), noMessages(), contrary(), noStretch()},
	} {
		for _, row := range rows {
			for _, one := range row {
				for _, other := range rows {
					for range 4 {
						// One change may take back another: the model tells what still applies.
						if x, ok := tryAll(one, other[r.Intn(len(other))]); ok {
							x.wantPlain(t)
						}
					}
				}
			}
		}
	}
	// All of a call at once, and all but the first ones.
	bad := good().changed(func(x *asked) {
		x.tariff, x.need, x.hour = times(7, offer(-1, each(0), allDay(), 0)), each(13), 24
		x.sum, x.weights = -1, make([]int, 11)
		x.messages, x.from, x.to = append(times(30, message(5, 10, 200)), message(5, 0, 200)), 0, 6
	})
	bad.wantErrors(t, api.ErrLimit, "CheckTariff", "Best", "Share", "Lost", "Taken", "Shows")
	bad.tariff, bad.messages, bad.weights = bad.tariff[:6], append(contraryTill(), message(5, 0, 200)), list(0, 0)
	for call, want := range map[string]api.Errno{"CheckTariff": api.ErrArg, "Best": api.ErrArg, "Share": api.ErrRange, "Lost": api.ErrArg, "Taken": api.ErrArg, "Shows": api.ErrArg} {
		if e := bad.calls()[call].e; e != want {
			t.Errorf("%s of %v: %v, not %v", call, bad, e, want)
		}
	}
	bad.tariff, bad.messages, bad.sum = nil, contraryTill(), 0
	for call, want := range map[string]api.Errno{"CheckTariff": api.OK, "Best": api.ErrRange, "Share": api.ErrNone, "Lost": api.ErrFail, "Taken": api.ErrFail, "Shows": api.ErrFail} {
		if e := bad.calls()[call].e; e != want {
			t.Errorf("%s of %v: %v, not %v", call, bad, e, want)
		}
	}
}

func contraryTill() []bill.Message { return append(till(), message(5, 11, 200)) }

// What is just valid still.
func TestJustValid(t *testing.T) {
	for _, offers := range list(1, 6) {
		for _, price := range list(0, 10000) {
			for _, has := range list(1, 12) {
				for _, hours := range []bill.Range{to(0, 0), to(23, 23), allDay(), to(0, 1), to(22, 23)} {
					for _, hour := range list(hours.Lo, hours.Hi) {
						for _, need := range list(0, 12) {
							x := good()
							x.tariff, x.need, x.hour = times(offers, offer(price, each(has), hours, 12)), each(need), hour
							x.purchase, x.cost = append(list(12), make([]int, offers-1)...), 12*price
							x.wantErrors(t, api.OK)
							x.wantPlain(t)
						}
					}
				}
			}
		}
	}
	for _, sum := range list(0, 1000000) {
		for _, many := range list(1, 10) {
			for _, weight := range list(1, 1000) {
				x := good()
				x.sum, x.weights = sum, times(many, weight)
				x.wantErrors(t, api.OK)
			}
		}
	}
	for _, m := range messages(message(1, 1, 1), message(1, 1000, 1000), message(60, 1, 60), message(60, 1000, 60000), message(60, 1000, 1059), message(60, 1, 59001)) {
		for _, many := range list(1, 30) {
			for _, from := range list(1, m.No) {
				x := good()
				x.messages, x.from, x.to = times(many, m), from, m.No
				x.wantErrors(t, api.OK)
				x.wantPlain(t)
			}
		}
	}
}

// R3: nil and a list without elements are the same.
func TestEmpty(t *testing.T) {
	for _, none := range [][]int{nil, {}} {
		for _, l := range [][]bill.Offer{nil, {}} {
			for _, told := range [][]bill.Message{nil, {}} {
				x := asked{tariff: l, purchase: none, weights: none, messages: told, from: 1, to: 1, sales: none}
				x.wantPlain(t)
				answers := x.calls()
				if answers["ProvePurchase"].results[0] != any(true) || answers["ProveSales"].results[0] != any(true) {
					t.Errorf("ProvePurchase, ProveSales of nothing: %v", answers)
				}
				if answers["Share"].e != api.ErrNone || answers["Taken"].e != api.ErrRange {
					t.Errorf("Share, Taken of nothing: %v", answers)
				}
				for _, call := range []string{"Best", "Lost", "Shows"} {
					if a := answers[call]; a.e != api.OK || !isNothing(a.results) {
						t.Errorf("%s of nothing: %v", call, a)
					}
				}
			}
		}
	}
}

// roomy has the list's elements with room behind them, which no call may use.
func roomy[T any](list []T) []T {
	if list == nil {
		return nil
	}
	return append(make([]T, 0, len(list)+4), list...)
}

func (x asked) roomy() asked {
	x.tariff, x.messages = roomy(x.tariff), roomy(x.messages)
	x.purchase, x.weights, x.sales = roomy(x.purchase), roomy(x.weights), roomy(x.sales)
	return x
}

func whole[T any](list []T) []T { return slices.Clone(list[:cap(list)]) }

// copied shares no memory with the arguments, and has what is in their room, too.
func (x asked) copied() asked {
	x.tariff, x.messages = whole(x.tariff), whole(x.messages)
	x.purchase, x.weights, x.sales = whole(x.purchase), whole(x.weights), whole(x.sales)
	return x
}

// someAsked has nothing that is not valid, but what it asks for need not be there.
func someAsked(r *rand.Rand) asked {
	l, sales := someTariff(r, 1+r.Intn(12), r.Intn(7)), someSales(r, r.Intn(61))
	told := someMessages(r, sales)
	x := asked{tariff: l, need: someAmount(r, 1+r.Intn(12)), hour: r.Intn(24), sum: r.Intn(1000001), weights: someWeights(r), messages: told, from: 1, to: 1, sales: sales[:plainGreatest(told)]}
	for _, o := range l {
		x.purchase = append(x.purchase, r.Intn(o.Most+1))
	}
	x.cost = plainCost(l, x.purchase) + r.Intn(3) - 1
	if last := len(x.sales); last > 0 {
		x.from, x.to = some(r, last)
	}
	if r.Intn(20) == 0 {
		x.weights = make([]int, r.Intn(11))
	}
	return x.roomy()
}

// R4: arguments are not written to, and results share no memory with them, nor with other calls' ones.
func TestMemory(t *testing.T) {
	r := rand.New(rand.NewSource(22))
	for range 1000 {
		x := someAsked(r)
		before, first := x.copied(), x.calls()
		for _, a := range x.calls() {
			for _, result := range a.results {
				if list, ok := result.([]int); ok {
					for i := range list {
						list[i] = -7
					}
					_ = append(list, -7)
				}
			}
		}
		if !reflect.DeepEqual(x.copied(), before) {
			t.Fatalf("the arguments are %v behind the calls", x)
		}
		if again := x.calls(); !reflect.DeepEqual(again, first) {
			t.Fatalf("the results are %v again, not %v", again, first)
		}
	}
}

// numbers is all that x has.
func (x *asked) numbers() []*int {
	all := []*int{&x.need.Games, &x.need.Quarters, &x.need.Shoes, &x.hour, &x.cost, &x.sum, &x.from, &x.to}
	for i := range x.tariff {
		o := &x.tariff[i]
		all = append(all, &o.Price, &o.Has.Games, &o.Has.Quarters, &o.Has.Shoes, &o.Hours.Lo, &o.Hours.Hi, &o.Most)
	}
	for i := range x.messages {
		m := &x.messages[i]
		all = append(all, &m.No, &m.Coins, &m.Total)
	}
	for _, list := range [][]int{x.purchase, x.weights, x.sales} {
		for i := range list {
			all = append(all, &list[i])
		}
	}
	return all
}

// P1 and the Rules' first lines: whatever the arguments are, each call returns, and returns the same again.
func TestAnyArguments(t *testing.T) {
	r := rand.New(rand.NewSource(23))
	more := append(edges(), 0, 1, 2, 3, 11, 12, 13, 22, 23, 24, 59, 60, 61, 999, 1000, 1001, 10000, 10001, 60000, 1000000)
	kinds := map[api.Errno]int{}
	for range 6000 {
		x := someAsked(r)
		often := list(10, 60, 300)[r.Intn(3)]
		for _, n := range x.numbers() {
			if r.Intn(often) == 0 {
				*n = more[r.Intn(len(more))]
			}
		}
		before := x.copied()
		if first := x.calls(); !reflect.DeepEqual(first, x.calls()) {
			t.Fatalf("not the same again: %v", x)
		}
		if !reflect.DeepEqual(x.copied(), before) {
			t.Fatalf("written to: %v, not %v", x, before)
		}
		x.wantPlain(t)
		for _, a := range x.calls() {
			kinds[a.e]++
		}
	}
	for _, e := range []api.Errno{api.OK, api.ErrArg, api.ErrRange, api.ErrNone, api.ErrFail} {
		if kinds[e] < 50 {
			t.Errorf("too few of some kind: %v", kinds)
		}
	}
}
