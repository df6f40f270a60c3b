// Package lists makes, maps, filters, searches, sums up, turns and changes lists, for all layers.
package lists

import "slices"

// Map returns what each element of a list becomes.
func Map[From, To any](list []From, to func(From) To) []To {
	result := make([]To, len(list))
	for i, element := range list {
		result[i] = to(element)
	}
	return result
}

// Filter returns a list of its own with the elements that are kept.
func Filter[T any](list []T, keep func(T) bool) []T {
	var kept []T
	for _, element := range list {
		if keep(element) {
			kept = append(kept, element)
		}
	}
	return kept
}

// Find returns the first element of a list that has a key, or the zero value and false.
func Find[T any, K comparable](list []T, key K, keyOf func(T) K) (T, bool) {
	for _, element := range list {
		if keyOf(element) == key {
			return element, true
		}
	}
	return *new(T), false
}

// Put returns a copy of an ascending list with an element in its place, instead of one that is as great.
func Put[T any](list []T, element T, order func(a, b T) int) []T {
	changed := make([]T, len(list), len(list)+1)
	copy(changed, list)
	place, found := slices.BinarySearchFunc(changed, element, order)
	if found {
		changed[place] = element
		return changed
	}
	return slices.Insert(changed, place, element)
}

// Numbers returns the numbers from 0 to n - 1, in their order.
func Numbers(n int) []int {
	numbers := make([]int, n)
	for i := range numbers {
		numbers[i] = i
	}
	return numbers
}

// Sum returns the sum of numbers.
func Sum[N int | int64](numbers []N) N {
	var sum N
	for _, x := range numbers {
		sum += x
	}
	return sum
}

// Exchange exchanges an element of a list and the next one.
func Exchange[T any](list []T, at int) {
	list[at], list[at+1] = list[at+1], list[at]
}

// Reversed returns a list of its own with the elements in the other order.
func Reversed[T any](list []T) []T {
	reversed := slices.Clone(list)
	slices.Reverse(reversed)
	return reversed
}

// Rotated returns a list of its own whose elements are further on by any integer, and come in again at the beginning.
func Rotated[T any](list []T, by int) []T {
	length := len(list)
	if length == 0 {
		return nil
	}
	cut := (length - by%length) % length // the remainder is taken first: by may be the least int
	return slices.Concat(list[cut:], list[:cut])
}
