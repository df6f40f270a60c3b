package braid_test

import (
	"math/big"
	"math/rand"
	"slices"
	"strings"
	"testing"

	"becket/api"
	"becket/braid"
)

// The tests of P5.3.

// linksIn returns the linking numbers, letter by letter.
func linksIn(n int, w []int) [][]int {
	links := make([][]int, n)
	for i := range links {
		links[i] = make([]int, n)
	}
	for i, letter := range w {
		ends := endsIn(n, w[:i])
		left, right := slices.Index(ends, abs(letter)-1), slices.Index(ends, abs(letter))
		links[left][right] += sign(letter)
		links[right][left] += sign(letter)
	}
	return links
}

func TestLink(t *testing.T) {
	for _, example := range []struct {
		n      int
		w      []int
		wanted [][]int
	}{
		{2, []int{1, 1}, [][]int{{0, 2}, {2, 0}}}, {3, []int{1, -2}, [][]int{{0, 1, -1}, {1, 0, 0}, {-1, 0, 0}}}, {1, nil, [][]int{{0}}}, {2, []int{1, -1}, [][]int{{0, 0}, {0, 0}}},
		{2, repeated(200, -1), [][]int{{0, -200}, {-200, 0}}}, {3, []int{1, -2, 1, -2, 1, -2}, [][]int{{0, 0, 0}, {0, 0, 0}, {0, 0, 0}}},
	} {
		links, e := braid.Link(example.n, example.w)
		sameResult(t, links, e, example.wanted, api.OK, example.n, example.w)
	}
	source := seeded()
	for n := 1; n <= 12; n++ {
		for _, length := range []int{0, 1, 5, 30, 200} {
			w := randomWord(source, n, length)
			links, e := braid.Link(n, w)
			sameResult(t, links, e, linksIn(n, w), api.OK, n, w)
		}
	}
}

// burauIn returns the product of the matrices of all letters, and ErrLarge if a number of it is too long.
func burauIn(n int, w []int, t *big.Rat) ([][]api.Rat, api.Errno) {
	product := unit(n)
	for _, letter := range w {
		product = productOf(product, burauOfLetter(n, letter, t))
	}
	var texts [][]api.Rat
	for _, row := range product {
		var list []api.Rat
		for _, x := range row {
			if len(x.Denom().String()) > 600 || len(strings.TrimPrefix(x.Num().String(), "-")) > 600 {
				return nil, api.ErrLarge
			}
			list = append(list, api.Rat(x.RatString()))
		}
		texts = append(texts, list)
	}
	return texts, api.OK
}

func unit(n int) [][]*big.Rat {
	var rows [][]*big.Rat
	for i := range n {
		var row []*big.Rat
		for k := range n {
			row = append(row, big.NewRat(0, 1))
			if i == k {
				row[k].SetInt64(1)
			}
		}
		rows = append(rows, row)
	}
	return rows
}

func burauOfLetter(n, letter int, t *big.Rat) [][]*big.Rat {
	rows, at, one := unit(n), abs(letter)-1, big.NewRat(1, 1)
	inverse := new(big.Rat).Inv(t)
	if letter > 0 {
		rows[at][at], rows[at][at+1] = new(big.Rat).Sub(one, t), t
		rows[at+1][at], rows[at+1][at+1] = one, new(big.Rat)
	} else {
		rows[at][at], rows[at][at+1] = new(big.Rat), one
		rows[at+1][at], rows[at+1][at+1] = inverse, new(big.Rat).Sub(one, inverse)
	}
	return rows
}

func productOf(a, b [][]*big.Rat) [][]*big.Rat {
	rows := unit(len(a))
	for i := range a {
		for k := range b {
			rows[i][k] = new(big.Rat)
			for j := range b {
				rows[i][k].Add(rows[i][k], new(big.Rat).Mul(a[i][j], b[j][k]))
			}
		}
	}
	return rows
}

// rational returns the number of a text.
func rational(text api.Rat) *big.Rat {
	x, _ := new(big.Rat).SetString(string(text))
	return x
}

// nines returns the number with so many digits 9.
func nines(count int) api.Rat {
	return api.Rat(strings.Repeat("9", count))
}

func TestBurauOfExamples(t *testing.T) {
	for _, example := range []struct {
		n      int
		w      []int
		t      api.Rat
		wanted [][]api.Rat
	}{
		{2, []int{1}, "2", [][]api.Rat{{"-1", "2"}, {"1", "0"}}}, {2, []int{-1}, "2", [][]api.Rat{{"0", "1"}, {"1/2", "1/2"}}},
		{3, []int{1, -2}, "2", [][]api.Rat{{"-1", "0", "2"}, {"1", "0", "0"}, {"0", "1/2", "1/2"}}}, {1, nil, "5", [][]api.Rat{{"1"}}},
		{2, []int{1, 1}, "1", [][]api.Rat{{"1", "0"}, {"0", "1"}}}, {2, []int{1}, "-1/3", [][]api.Rat{{"4/3", "-1/3"}, {"1", "0"}}},
		{2, []int{-1}, "-1/3", [][]api.Rat{{"0", "1"}, {"-3", "4"}}},
	} {
		rows, e := braid.Burau(example.n, example.w, example.t)
		sameResult(t, rows, e, example.wanted, api.OK, example.n, example.w, example.t)
	}
	rows, e := braid.Burau(3, []int{1, -2, 1, -2, 1, -2}, "2")
	sameResult(t, rows[0], e, []api.Rat{"0", "-1/2", "3/2"}, api.OK)
}

// randomNumber returns a number other than 0 with numerators and denominators up to a limit.
func randomNumber(source *rand.Rand, most int64) *big.Rat {
	return big.NewRat((1+source.Int63n(most))*int64(2*source.Intn(2)-1), 1+source.Int63n(most))
}

func TestBurauOfMany(t *testing.T) {
	source := seeded()
	large := 0
	for i := range 600 {
		n := 1 + source.Intn(12)
		if i%5 == 0 {
			n = 2 // where numbers soon have many digits
		}
		x := randomNumber(source, []int64{3, 100, 1 << 62}[i%3])
		w := randomWord(source, n, source.Intn([]int{30, 60}[i%2]))
		if n == 2 {
			for k := range w {
				w[k] = abs(w[k])
			}
		}
		wanted, code := burauIn(n, w, x)
		rows, e := braid.Burau(n, w, api.Rat(x.RatString()))
		sameResult(t, rows, e, wanted, code, n, w, x)
		if code == api.ErrLarge {
			large++
		}
	}
	same(t, large > 10 && large < 300, true, "numbers with too many digits", large)
}

func TestErrorsOfBurau(t *testing.T) {
	for _, bad := range []struct {
		t api.Rat
		e api.Errno
	}{
		{"", api.ErrForm}, {"x", api.ErrForm}, {"2/4", api.ErrForm}, {"-0", api.ErrForm}, {"1/0", api.ErrForm}, {"0/2", api.ErrForm}, {"01", api.ErrForm}, {nines(601), api.ErrLarge},
		{"1/" + nines(601), api.ErrLarge}, {"0", api.ErrZero},
	} {
		for _, w := range [][]int{nil, {1}, {1, -1}} {
			rows, e := braid.Burau(2, w, bad.t)
			sameResult(t, rows, e, [][]api.Rat(nil), bad.e, bad.t)
		}
	}
	rows, e := braid.Burau(2, []int{2}, "x")
	sameResult(t, rows, e, [][]api.Rat(nil), api.ErrRange, "the word comes first")
}

// Only numbers of the result are limited.
func TestBurauOfLongNumbers(t *testing.T) {
	for _, example := range []struct {
		n int
		w []int
		t api.Rat
	}{
		{2, []int{1}, nines(600)}, {2, []int{-1}, nines(600)}, {2, []int{1}, "-" + nines(600)}, {2, []int{-1}, "-" + nines(600)}, {2, []int{1}, "1/" + nines(600)},
		{2, []int{-1}, "1/" + nines(600)}, {2, []int{-1}, "-1/" + nines(600)}, {2, []int{1, 1}, nines(300)}, {2, []int{1, 1}, nines(301)}, {3, []int{1, 2}, nines(300)},
		{3, []int{2, 1}, nines(600)}, {2, repeated(199, 1), "1000"}, {2, repeated(199, -1), "1000"}, {2, repeated(200, 1), "1000"}, {2, repeated(200, -1), "1000"},
		{2, repeated(200, 1), "-2"}, {3, repeated(3, 2), nines(200)}, {3, repeated(3, 2), nines(201)}, {12, nil, nines(600)},
	} {
		wanted, code := burauIn(example.n, example.w, rational(example.t))
		rows, e := braid.Burau(example.n, example.w, example.t)
		sameResult(t, rows, e, wanted, code, example.n, example.w, len(example.t))
	}
	source := seeded()
	for _, x := range []api.Rat{nines(600), "-" + nines(600) + "/1" + api.Rat(strings.Repeat("0", 599)), "1/" + nines(600)} {
		for n := 1; n <= 12; n += 3 {
			there := randomWord(source, n, 100)
			back := disguised(source, n, opposite(there), 100, 100)
			rows, e := braid.Burau(n, slices.Concat(there, back), x)
			wanted, _ := burauIn(n, nil, rational("1"))
			sameResult(t, rows, e, wanted, api.OK, n)
		}
	}
}

// freeIn returns the images of the generators: each letter, from the last one on, puts words in the place of generators.
func freeIn(n int, w []int) [][]int {
	var images [][]int
	for strand := range n {
		image := []int{strand + 1}
		for _, letter := range slices.Backward(w) {
			var next []int
			for _, generator := range image {
				part := imageOfLetter(letter, abs(generator))
				if generator < 0 {
					part = opposite(part)
				}
				next = append(next, part...)
			}
			image = reducedIn(next)
		}
		images = append(images, image)
	}
	return images
}

func imageOfLetter(letter, generator int) []int {
	i := abs(letter)
	switch {
	case letter > 0 && generator == i:
		return []int{i, i + 1, -i}
	case letter > 0 && generator == i+1:
		return []int{i}
	case letter < 0 && generator == i:
		return []int{i + 1}
	case letter < 0 && generator == i+1:
		return []int{-i - 1, i, i + 1}
	}
	return []int{generator}
}

func TestFree(t *testing.T) {
	for _, example := range []struct {
		n      int
		w      []int
		wanted [][]int
	}{
		{2, []int{1}, [][]int{{1, 2, -1}, {1}}}, {2, []int{1, 1}, [][]int{{1, 2, 1, -2, -1}, {1, 2, -1}}}, {2, []int{-1}, [][]int{{2}, {-2, 1, 2}}},
		{3, []int{1, -1}, [][]int{{1}, {2}, {3}}}, {1, nil, [][]int{{1}}}, {3, []int{-2}, [][]int{{1}, {3}, {-3, 2, 3}}},
	} {
		images, e := braid.Free(example.n, example.w)
		sameResult(t, images, e, example.wanted, api.OK, example.n, example.w)
	}
	source := seeded()
	for i := range 300 {
		n := 1 + source.Intn(12)
		if i%2 == 0 {
			n = 3
		}
		w := randomWord(source, n, source.Intn(13))
		images, e := braid.Free(n, w)
		sameResult(t, images, e, freeIn(n, w), api.OK, n, w)
	}
	for _, w := range [][]int{repeated(12, 1), {1, -2, 1, -2, 1, -2, 1, -2, 1, -2, 1, -2}} {
		images, e := braid.Free(3, w)
		sameResult(t, images, e, freeIn(3, w), api.OK, w)
	}
	for _, length := range []int{13, 200} {
		images, e := braid.Free(3, repeated(length, 1))
		sameResult(t, images, e, [][]int(nil), api.ErrLimit, length)
	}
	images, e := braid.Free(2, repeated(13, 2))
	sameResult(t, images, e, [][]int(nil), api.ErrRange, "the word comes first")
}

func TestComponents(t *testing.T) {
	for _, example := range []struct {
		n      int
		w      []int
		wanted [][]int
	}{
		{2, []int{1, 1, 1}, [][]int{{0, 1}}}, {2, []int{1, 1}, [][]int{{0}, {1}}}, {3, []int{1, 1}, [][]int{{0}, {1}, {2}}}, {3, []int{1, -2}, [][]int{{0, 2, 1}}}, {1, nil, [][]int{{0}}},
		{4, []int{1, 2, 1}, [][]int{{0, 2}, {1}, {3}}}, {4, []int{-3, 1}, [][]int{{0, 1}, {2, 3}}}, {3, nil, [][]int{{0}, {1}, {2}}},
	} {
		components, e := braid.Components(example.n, example.w)
		sameResult(t, components, e, example.wanted, api.OK, example.n, example.w)
	}
	source := seeded()
	for range 200 {
		n := 1 + source.Intn(12)
		w := randomWord(source, n, source.Intn(201))
		components, e := braid.Components(n, w)
		same(t, e, api.OK, n, w)
		ends, found := endsIn(n, w), 0
		for i, cycle := range components {
			same(t, cycle[0] == slices.Min(cycle) && (i == 0 || cycle[0] > components[i-1][0]), true, components)
			for k, place := range cycle {
				same(t, cycle[(k+1)%len(cycle)], ends[place], n, w, components)
				found++
			}
		}
		same(t, found, n, components)
	}
}
