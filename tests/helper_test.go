package tests

import "slices"

const spareMark = -77

// roomy lays a list into memory with spare room behind it, which is marked so that a write there shows.
func roomy(list []int64) []int64 {
	return roomyWith(list, spareMark)
}

func roomyWith[T any](list []T, mark T) []T {
	whole := make([]T, len(list)+4)
	copy(whole, list)
	for i := len(list); i < len(whole); i++ {
		whole[i] = mark
	}
	return whole[:len(list)]
}

// whole is a list with all that lies in the spare room behind it.
func whole[T any](list []T) []T {
	return slices.Clone(list[:cap(list)])
}

// scribble writes over an answer and its spare room: what shares memory with it changes, too.
func scribble(list []int64) {
	list = list[:cap(list)]
	for i := range list {
		list[i] = -99
	}
}

// allLists are all lists of this many out of these.
func allLists[T any](length int, of ...T) [][]T {
	out := [][]T{{}}
	for range length {
		var longer [][]T
		for _, list := range out {
			for _, n := range of {
				longer = append(longer, append(slices.Clone(list), n))
			}
		}
		out = longer
	}
	return out
}

func repeated(n int64, times int) []int64 {
	return slices.Repeat([]int64{n}, times)
}
