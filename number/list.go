package number

import (
	"cmp"
	"slices"

	"becket/api"
)

// The numbers of a drawn order.
const (
	drawFactor  = 39373
	drawModulus = 2147483647
)

// Shares divides an integer by weights.
func Shares(total int, weights []int) ([]int, api.Errno) {
	if !inRange(total, 0, api.MaxNumber) {
		return nil, api.ErrRange
	}
	sum, e := sumOfWeights(weights)
	if e != api.OK {
		return nil, e
	}
	shares, places := make([]int, len(weights)), make([]int, len(weights))
	remainders := make([]int64, len(weights))
	left := total
	for i, weight := range weights {
		product := int64(total) * int64(weight)
		shares[i], remainders[i], places[i] = int(product/sum), product%sum, i
		left -= shares[i]
	}
	slices.SortStableFunc(places, func(a, b int) int {
		return cmp.Compare(remainders[b], remainders[a])
	})
	for _, place := range places[:left] {
		shares[place]++
	}
	return shares, api.OK
}

// sumOfWeights returns the sum, and the first error of the weights.
func sumOfWeights(weights []int) (int64, api.Errno) {
	if len(weights) == 0 {
		return 0, api.ErrEmpty
	}
	if len(weights) > api.MaxList {
		return 0, api.ErrMany
	}
	var sum int64
	for _, weight := range weights {
		if !inRange(weight, 0, api.MaxNumber) {
			return 0, api.ErrRange
		}
		sum += int64(weight)
	}
	if sum == 0 {
		return 0, api.ErrZero
	}
	return sum, api.OK
}

// Draw returns a drawn order of n elements.
func Draw(key, n int) ([]int, api.Errno) {
	if !inRange(key, 1, drawModulus-1) || !inRange(n, 0, api.MaxList) {
		return nil, api.ErrRange
	}
	var order []int
	x := int64(key)
	for i := range n {
		x = x * drawFactor % drawModulus
		order = slices.Insert(order, int(x%int64(i+1)), i)
	}
	return order, api.OK
}

func inRange(value, least, most int) bool {
	return least <= value && value <= most
}
