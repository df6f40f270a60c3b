// Package lists makes, maps, sums up, turns and changes lists, for all layers.
package lists

import "slices"

// Map returns what each element of a list becomes.
func Map[From, To any](list []From, to func(From) To) []To {
	result := make([]To, len(list))
	for i, element := range list {
		result[i] = to(element)
	}
	return result
}

// Numbers returns the numbers from 0 to n - 1, in their order.
func Numbers(n int) []int {
	numbers := make([]int, n)
	for i := range numbers {
		numbers[i] = i
	}
	return numbers
}

// Sum returns the sum of numbers.
func Sum[N int | int64](numbers []N) N {
	var sum N
	for _, x := range numbers {
		sum += x
	}
	return sum
}

// Exchange exchanges an element of a list and the next one.
func Exchange[T any](list []T, at int) {
	list[at], list[at+1] = list[at+1], list[at]
}

// Reversed returns a list of its own with the elements in the other order.
func Reversed[T any](list []T) []T {
	reversed := slices.Clone(list)
	slices.Reverse(reversed)
	return reversed
}

// Rotated returns a list of its own whose elements are further on by any integer, and come in again at the beginning.
func Rotated[T any](list []T, by int) []T {
	length := len(list)
	if length == 0 {
		return nil
	}
	cut := (length - by%length) % length // the remainder is taken first: by may be the least int
	return slices.Concat(list[cut:], list[:cut])
}
