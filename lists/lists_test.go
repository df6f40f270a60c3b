package lists_test

import (
	"math"
	"slices"
	"strconv"
	"testing"

	"becket/lists"
)

func TestMap(t *testing.T) {
	list := []int{3, -1, 3}
	texts := lists.Map(list, strconv.Itoa)
	if !slices.Equal(texts, []string{"3", "-1", "3"}) || !slices.Equal(list, []int{3, -1, 3}) {
		t.Error(texts, list)
	}
	if empty := lists.Map(nil, strconv.Itoa); len(empty) != 0 {
		t.Error(empty)
	}
	same := lists.Map(list, func(element int) int { return element })
	same[0] = 9
	if list[0] != 3 {
		t.Error("the list of the results has the memory of the argument")
	}
}

func TestFilter(t *testing.T) {
	list := []int{3, -1, 4, -1}
	negative := lists.Filter(list, func(element int) bool { return element < 0 })
	if !slices.Equal(negative, []int{-1, -1}) || !slices.Equal(list, []int{3, -1, 4, -1}) {
		t.Error(negative, list)
	}
	all := lists.Filter(list, func(int) bool { return true })
	all[0] = 9
	if list[0] != 3 {
		t.Error("the list of the results has the memory of the argument")
	}
	if none := lists.Filter(list, func(int) bool { return false }); len(none) != 0 {
		t.Error(none)
	}
}

func TestFind(t *testing.T) {
	list := []string{"one", "two", "three", "four"}
	for key, wanted := range map[int]string{3: "one", 5: "three", 4: "four", 9: ""} {
		element, found := lists.Find(list, key, func(element string) int { return len(element) })
		if element != wanted || found != (wanted != "") {
			t.Error(key, element, found)
		}
	}
	if element, found := lists.Find(nil, 1, func(element int) int { return element }); element != 0 || found {
		t.Error(element, found)
	}
}

func TestPut(t *testing.T) {
	byTens := func(a, b int) int { return a/10 - b/10 }
	list := []int{11, 22, 44}
	for element, wanted := range map[int][]int{
		5: {5, 11, 22, 44}, 15: {15, 22, 44}, 29: {11, 29, 44}, 33: {11, 22, 33, 44}, 40: {11, 22, 40}, 50: {11, 22, 44, 50},
	} {
		changed := lists.Put(append(make([]int, 0, 9), list...), element, byTens)
		if !slices.Equal(changed, wanted) {
			t.Error(element, changed)
		}
		changed = lists.Put(list, element, byTens)
		changed[0] = 9
		if !slices.Equal(list, []int{11, 22, 44}) {
			t.Fatal("the argument was changed:", list)
		}
	}
	if first := lists.Put(nil, 7, byTens); !slices.Equal(first, []int{7}) {
		t.Error(first)
	}
}

func TestNumbers(t *testing.T) {
	if !slices.Equal(lists.Numbers(4), []int{0, 1, 2, 3}) || len(lists.Numbers(0)) != 0 {
		t.Error(lists.Numbers(4), lists.Numbers(0))
	}
}

func TestSum(t *testing.T) {
	list := []int{3, -1, 3}
	if sum := lists.Sum(list); sum != 5 || !slices.Equal(list, []int{3, -1, 3}) {
		t.Error(sum, list)
	}
	if sum := lists.Sum([]int64{math.MaxInt32, math.MaxInt32}); sum != 4294967294 {
		t.Error(sum)
	}
	if lists.Sum([]int(nil)) != 0 || lists.Sum([]int{7}) != 7 {
		t.Error(lists.Sum([]int(nil)), lists.Sum([]int{7}))
	}
}

func TestExchange(t *testing.T) {
	list := []string{"a", "b", "c"}
	lists.Exchange(list, 1)
	lists.Exchange(list, 0)
	if !slices.Equal(list, []string{"c", "a", "b"}) {
		t.Error(list)
	}
}

func TestReversed(t *testing.T) {
	list := []string{"a", "b", "c"}
	reversed := lists.Reversed(list)
	if !slices.Equal(reversed, []string{"c", "b", "a"}) || len(lists.Reversed([]int(nil))) != 0 {
		t.Error(reversed)
	}
	reversed[0] = "d"
	if !slices.Equal(list, []string{"a", "b", "c"}) {
		t.Error("the argument was changed:", list)
	}
}

func TestRotated(t *testing.T) {
	list := []int{1, 2, 3}
	for _, example := range []struct {
		by     int
		wanted []int
	}{
		{0, []int{1, 2, 3}}, {1, []int{3, 1, 2}}, {2, []int{2, 3, 1}}, {3, []int{1, 2, 3}}, {-1, []int{2, 3, 1}}, {-4, []int{2, 3, 1}},
		{math.MaxInt, []int{3, 1, 2}}, {math.MinInt, []int{3, 1, 2}}, {math.MinInt + 1, []int{2, 3, 1}},
	} {
		rotated := lists.Rotated(list, example.by)
		if !slices.Equal(rotated, example.wanted) {
			t.Error(example, rotated)
		}
		rotated[0] = 9
		if !slices.Equal(list, []int{1, 2, 3}) {
			t.Fatal("the argument was changed:", list)
		}
	}
	if empty := lists.Rotated([]int(nil), 5); len(empty) != 0 {
		t.Error(empty)
	}
}
