package tests

import "slices"

const spareMark = -77

// roomy lays a list into memory with spare room behind it, which is marked so that a write there shows.
func roomy(list []int64) []int64 {
	whole := make([]int64, len(list)+4)
	copy(whole, list)
	for i := len(list); i < len(whole); i++ {
		whole[i] = spareMark
	}
	return whole[:len(list)]
}

// whole is a list with all that lies in the spare room behind it.
func whole(list []int64) []int64 {
	return slices.Clone(list[:cap(list)])
}

// scribble writes over an answer and its spare room: what shares memory with it changes, too.
func scribble(list []int64) {
	list = list[:cap(list)]
	for i := range list {
		list[i] = -99
	}
}

// allLists are all lists of this many numbers out of these.
func allLists(length int, numbers ...int64) [][]int64 {
	out := [][]int64{{}}
	for range length {
		var longer [][]int64
		for _, list := range out {
			for _, n := range numbers {
				longer = append(longer, append(slices.Clone(list), n))
			}
		}
		out = longer
	}
	return out
}

func repeated(n int64, times int) []int64 {
	return slices.Repeat([]int64{n}, times)
}
