// Package lists maps lists, for all layers.
package lists

// Map returns what each element of a list becomes.
func Map[From, To any](list []From, to func(From) To) []To {
	result := make([]To, len(list))
	for i, element := range list {
		result[i] = to(element)
	}
	return result
}
