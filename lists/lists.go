// Package lists makes, maps and changes lists, for all layers.
package lists

// Map returns what each element of a list becomes.
func Map[From, To any](list []From, to func(From) To) []To {
	result := make([]To, len(list))
	for i, element := range list {
		result[i] = to(element)
	}
	return result
}

// Numbers returns the numbers from 0 to n - 1, in their order.
func Numbers(n int) []int {
	numbers := make([]int, n)
	for i := range numbers {
		numbers[i] = i
	}
	return numbers
}

// Exchange exchanges an element of a list and the next one.
func Exchange[T any](list []T, at int) {
	list[at], list[at+1] = list[at+1], list[at]
}
