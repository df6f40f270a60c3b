package number_test

import (
	"math"
	"math/big"
	"slices"
	"testing"

	"becket/api"
	"becket/number"
)

// The tests of P1.5 but for equations.

// repeated returns a list of equal integers.
func repeated(value, count int) []int {
	return slices.Repeat([]int{value}, count)
}

// wantedShares gives what is left to one after another.
func wantedShares(total int, weights []int) []int {
	sum := new(big.Int)
	for _, weight := range weights {
		sum.Add(sum, big.NewInt(int64(weight)))
	}
	shares, rests := make([]int, len(weights)), make([]*big.Int, len(weights))
	left := total
	for i, weight := range weights {
		product := new(big.Int).Mul(big.NewInt(int64(total)), big.NewInt(int64(weight)))
		share, rest := new(big.Int).DivMod(product, sum, new(big.Int))
		shares[i], rests[i] = int(share.Int64()), rest
		left -= shares[i]
	}
	for ; left > 0; left-- {
		best := 0
		for i, rest := range rests {
			if rest.Cmp(rests[best]) > 0 {
				best = i
			}
		}
		shares[best]++
		rests[best] = big.NewInt(-1)
	}
	return shares
}

func TestShares(t *testing.T) {
	most := api.MaxNumber
	for _, row := range []struct {
		total   int
		weights []int
		wanted  []int
	}{
		{50, []int{1, 2, 4}, []int{7, 14, 29}}, {11, []int{1, 1, 1, 0}, []int{4, 4, 3, 0}}, {0, []int{1, 2}, []int{0, 0}}, {1, []int{0, 0, 1, 1}, []int{0, 0, 1, 0}},
		{1, []int{1, 2}, []int{0, 1}}, {2, []int{1, 1, 1}, []int{1, 1, 0}}, {5, []int{2, 1, 2, 1}, []int{2, 1, 1, 1}}, {7, []int{3}, []int{7}},
		{most, []int{most, most, most}, []int{333333333, 333333333, 333333333}}, {most - 1, []int{most, most}, []int{499999999, 499999999}},
		{most, []int{most, 0, most}, []int{500000000, 0, 499999999}}, {3, repeated(most, 256), append([]int{1, 1, 1}, repeated(0, 253)...)},
	} {
		got, e := number.Shares(row.total, row.weights)
		same(t, e, api.OK, row.total, len(row.weights))
		same(t, got, row.wanted, row.total, len(row.weights))
	}
	source := seeded()
	for i := range 2000 {
		weights := make([]int, 1+source.Intn(12))
		limit := []int{2, 3, 10, most + 1}[i%4]
		for j := range weights {
			weights[j] = source.Intn(limit)
		}
		weights[source.Intn(len(weights))]++
		weights[0] = min(weights[0], most)
		if slices.Max(weights) > most || slices.Max(weights) == 0 {
			continue
		}
		total := source.Intn([]int{5, 100, most + 1}[i%3])
		kept := slices.Clone(weights)
		got, e := number.Shares(total, weights)
		same(t, e, api.OK, total, weights)
		same(t, got, wantedShares(total, weights), total, weights)
		same(t, weights, kept, "the argument")
		for j := range got {
			got[j] = -1
		}
		same(t, weights, kept, "the argument, when the result is changed")
	}
}

func TestErrorsOfShares(t *testing.T) {
	most := api.MaxNumber
	for _, row := range []struct {
		total   int
		weights []int
		e       api.Errno
	}{
		{-1, nil, api.ErrRange}, {most + 1, nil, api.ErrRange}, {math.MinInt, []int{1}, api.ErrRange}, {math.MaxInt, []int{1}, api.ErrRange},
		{-1, repeated(1, 257), api.ErrRange}, {-1, []int{0}, api.ErrRange},
		{0, nil, api.ErrEmpty}, {5, []int{}, api.ErrEmpty}, {5, repeated(1, 257), api.ErrMany}, {5, repeated(-1, 257), api.ErrMany}, {5, repeated(0, 257), api.ErrMany},
		{5, []int{-1}, api.ErrRange}, {5, []int{1, -1}, api.ErrRange}, {5, []int{most + 1}, api.ErrRange}, {5, []int{0, 0, -1}, api.ErrRange}, {5, []int{5, -5}, api.ErrRange},
		{5, []int{math.MaxInt, 1}, api.ErrRange}, {5, []int{math.MinInt, math.MinInt}, api.ErrRange},
		{5, []int{0}, api.ErrZero}, {0, []int{0, 0}, api.ErrZero}, {5, repeated(0, 256), api.ErrZero},
	} {
		got, e := number.Shares(row.total, row.weights)
		same(t, e, row.e, row.total, len(row.weights))
		same(t, len(got), 0, row.total, len(row.weights))
	}
}

// wantedDraw inserts by moving what is behind.
func wantedDraw(key, n int) []int {
	order, x := []int{}, big.NewInt(int64(key))
	for i := range n {
		x.Mul(x, big.NewInt(39373)).Mod(x, big.NewInt(2147483647))
		place := int(new(big.Int).Mod(x, big.NewInt(int64(i+1))).Int64())
		order = append(order, i)
		for j := i; j > place; j-- {
			order[j], order[j-1] = order[j-1], order[j]
		}
	}
	return order
}

func TestDraw(t *testing.T) {
	for _, row := range []struct {
		key, n int
		wanted []int
	}{
		{1, 0, nil}, {1, 1, []int{0}}, {1, 2, []int{0, 1}}, {1, 3, []int{0, 2, 1}}, {2147483646, 0, nil}, {2147483646, 1, []int{0}},
	} {
		got, e := number.Draw(row.key, row.n)
		same(t, e, api.OK, row.key, row.n)
		same(t, got, row.wanted, row.key, row.n)
	}
	for _, key := range []int{1, 2, 3, 7, 1000, 39373, 123456789, 2147483645, 2147483646} {
		for _, n := range []int{2, 3, 4, 5, 17, 100, 255, 256} {
			got, e := number.Draw(key, n)
			same(t, e, api.OK, key, n)
			same(t, got, wantedDraw(key, n), key, n)
		}
	}
}

func TestErrorsOfDraw(t *testing.T) {
	for _, row := range [][2]int{
		{0, 3}, {-1, 3}, {2147483647, 3}, {2147483648, 3}, {math.MaxInt, 3}, {math.MinInt, 3}, {1, -1}, {1, 257}, {1, math.MaxInt}, {1, math.MinInt}, {0, 0}, {0, -1}, {2147483647, 0},
	} {
		got, e := number.Draw(row[0], row[1])
		same(t, e, api.ErrRange, row)
		same(t, len(got), 0, row)
	}
}
