package bill

// parts are the games, the quarters and the shoes of an amount.
type parts [3]int

func (a Amount) parts() parts { return parts{a.Games, a.Quarters, a.Shoes} }

// without is what is left to be bought behind something that is bought so often.
func (p parts) without(has parts, many int) parts {
	for i := range p {
		p[i] = max(p[i]-many*has[i], 0)
	}
	return p
}

// moment is an hour at which something is bought.
type moment int

// mayBuy tells whether the offer may be bought so often.
func (m moment) mayBuy(o Offer, many int) bool {
	return within(many, 0, o.Most) && (many == 0 || o.Hours.has(int(m)))
}

// still is what is left to be bought, and the first offer of those that are left for it.
type still struct {
	offer int
	need  parts
}

// deal is how often offers are bought, altogether and the first one of them, and what they cost.
type deal struct {
	covers            bool
	cost, many, first int
}

// isBetter tells whether a deal costs less, or as much with fewer offers.
func (d deal) isBetter(other deal) bool {
	if !d.covers || !other.covers {
		return d.covers
	}
	return d.cost < other.cost || d.cost == other.cost && d.many < other.many
}

// best returns the best purchase of what is needed, and its cost, and false if none covers it.
func (m moment) best(l []Offer, need parts) (purchase []int, cost int, covers bool) {
	known := map[still]deal{}
	mayBuy := m.mayBuy
	var from func(s still) deal
	from = func(s still) deal {
		if s.offer == len(l) {
			return deal{covers: s.need == parts{}}
		}
		if d, ok := known[s]; ok {
			return d
		}
		var best deal
		o := l[s.offer]
		for n := 0; mayBuy(o, n); n++ {
			d := from(still{s.offer + 1, s.need.without(o.Has.parts(), n)})
			d.cost, d.many, d.first = d.cost+n*o.Price, d.many+n, n
			// Of deals that are as good the first one is part of the least list.
			if d.isBetter(best) {
				best = d
			}
		}
		known[s] = best
		return best
	}
	whole := from(still{0, need})
	if !whole.covers {
		return nil, 0, false
	}
	for i, o := range l {
		n := from(still{i, need}).first
		purchase = append(purchase, n)
		need = need.without(o.Has.parts(), n)
	}
	return purchase, whole.cost, true
}
