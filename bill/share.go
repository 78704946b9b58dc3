package bill

// split is the shares of the sum by the weights, of which some is more than 0 if there is any.
func split(sum int, weights ...int) []int {
	together := 0
	for _, weight := range weights {
		together += weight
	}
	var shares []int
	before, paid := 0, 0
	for _, weight := range weights {
		before += weight
		upTo := sum * before / together
		shares = append(shares, upTo-paid)
		paid = upTo
	}
	return shares
}
