package tests

import (
	"math"
	"slices"
	"testing"

	"loop.example/g00266/impl"
)

const most = impl.MaxCount

// vectorSets are sets of vectors, those of one set as long as each other, small enough to take any three of a set.
func vectorSets() [][][]int64 {
	long := [][]int64{
		repeated(0, 8), repeated(most, 8), repeated(5, 8),
		{0, 1, 2, 3, 4, 5, 6, 7}, {7, 6, 5, 4, 3, 2, 1, 0},
		{most, 0, most, 0, most, 0, most, 0}, {0, most, 0, most, 0, most, 0, most},
		{0, 1, 2, 3, 4, 5, 6, 8}, {1, 1, 2, 3, 4, 5, 6, 7},
	}
	return [][][]int64{
		allLists[int64](1, 0, 1, 2, most-1, most),
		allLists[int64](2, 0, 1, most-1, most),
		allLists[int64](3, 0, 3, most),
		long,
	}
}

func noVectors() [][]int64 {
	return [][]int64{
		nil, {}, repeated(0, 9), repeated(1, 9), repeated(most, 9), repeated(0, 1000),
		{-1}, {most + 1}, {math.MinInt64}, {math.MaxInt64},
		{-1, 0, 0}, {0, -1, 0}, {0, 0, -1},
		{most + 1, 0, 0}, {0, most + 1, 0}, {0, 0, most + 1},
		{0, 0, 0, 0, 0, 0, 0, -1}, {0, 0, 0, 0, 0, 0, 0, most + 1},
		{math.MinInt64, math.MaxInt64, 0}, {-1, most + 1},
	}
}

func TestVectorOk(t *testing.T) {
	for length := 1; length <= 8; length++ {
		for _, n := range []int64{0, 1, most - 1, most} {
			if v := repeated(n, length); !impl.VectorOk(v) {
				t.Errorf("VectorOk(%v) is false", v)
			}
		}
	}
	for _, v := range noVectors() {
		if impl.VectorOk(v) {
			t.Errorf("VectorOk(%v) is true", v)
		}
	}
	if impl.MaxCount != 1000000 {
		t.Errorf("MaxCount is %d", impl.MaxCount)
	}
}

// Each bad number is tried at each place of each length: none may be passed over.
func TestVectorOkLooksAtEachNumber(t *testing.T) {
	for length := 1; length <= 8; length++ {
		for place := range length {
			for _, bad := range []int64{-1, most + 1} {
				v := repeated(4, length)
				v[place] = bad
				if impl.VectorOk(v) {
					t.Errorf("VectorOk(%v) is true", v)
				}
			}
		}
	}
}

func TestJoinAndMeetTellNumberByNumber(t *testing.T) {
	for _, set := range vectorSets() {
		for _, a := range set {
			for _, b := range set {
				j, m := impl.Join(a, b), impl.Meet(a, b)
				if len(j) != len(a) || len(m) != len(a) {
					t.Fatalf("of %v and %v: Join %v, Meet %v", a, b, j, m)
				}
				for i := range a {
					if j[i] != max(a[i], b[i]) || m[i] != min(a[i], b[i]) {
						t.Fatalf("of %v and %v: Join %v, Meet %v", a, b, j, m)
					}
				}
			}
		}
	}
}

// Promise 1: in any order (of two, of three, of one with itself).
func TestJoinAndMeetGoInAnyOrder(t *testing.T) {
	type pairing func(a []int64, b []int64) []int64
	for name, f := range map[string]pairing{"Join": impl.Join, "Meet": impl.Meet} {
		for _, set := range vectorSets() {
			for _, a := range set {
				if !slices.Equal(f(a, a), a) {
					t.Fatalf("%s of %v with itself is %v", name, a, f(a, a))
				}
				for _, b := range set {
					ab := f(a, b)
					if !slices.Equal(ab, f(b, a)) {
						t.Fatalf("%s of %v and %v hangs on their order", name, a, b)
					}
					for _, c := range set {
						if !slices.Equal(f(ab, c), f(a, f(b, c))) {
							t.Fatalf("%s of %v, %v and %v hangs on their order", name, a, b, c)
						}
					}
				}
			}
		}
	}
}

// Promise 1: with one another (each takes the other in, and each goes into the other).
func TestJoinAndMeetGoWithOneAnother(t *testing.T) {
	for _, set := range vectorSets() {
		for _, a := range set {
			for _, b := range set {
				if !slices.Equal(impl.Join(a, impl.Meet(a, b)), a) || !slices.Equal(impl.Meet(a, impl.Join(a, b)), a) {
					t.Fatalf("of %v and %v: one does not take the other in", a, b)
				}
				for _, c := range set {
					left := impl.Meet(a, impl.Join(b, c))
					if right := impl.Join(impl.Meet(a, b), impl.Meet(a, c)); !slices.Equal(left, right) {
						t.Fatalf("of %v, %v and %v: %v and %v", a, b, c, left, right)
					}
					left = impl.Join(a, impl.Meet(b, c))
					if right := impl.Meet(impl.Join(a, b), impl.Join(a, c)); !slices.Equal(left, right) {
						t.Fatalf("of %v, %v and %v: %v and %v", a, b, c, left, right)
					}
				}
			}
		}
	}
}

// Promise 1: Under is an order, and the one of which Join and Meet are the nearest above and below.
func TestUnderIsAnOrder(t *testing.T) {
	for _, set := range vectorSets() {
		for _, a := range set {
			if !impl.Under(a, a) {
				t.Fatalf("%v is not Under itself", a)
			}
			for _, b := range set {
				checkUnderOfTwo(t, a, b)
				for _, c := range set {
					checkUnderOfThree(t, a, b, c)
				}
			}
		}
	}
}

func checkUnderOfTwo(t *testing.T, a []int64, b []int64) {
	t.Helper()
	want := true
	for i := range a {
		want = want && a[i] <= b[i]
	}
	if impl.Under(a, b) != want {
		t.Fatalf("Under(%v, %v) is %v", a, b, !want)
	}
	if impl.Under(a, b) && impl.Under(b, a) && !slices.Equal(a, b) {
		t.Fatalf("%v and %v are Under each other", a, b)
	}
	j, m := impl.Join(a, b), impl.Meet(a, b)
	if !impl.Under(a, j) || !impl.Under(b, j) || !impl.Under(m, a) || !impl.Under(m, b) {
		t.Fatalf("of %v and %v: Join %v, Meet %v are not around them", a, b, j, m)
	}
	if want != slices.Equal(j, b) || want != slices.Equal(m, a) {
		t.Fatalf("of %v and %v: Under is %v, Join %v, Meet %v", a, b, want, j, m)
	}
}

func checkUnderOfThree(t *testing.T, a []int64, b []int64, c []int64) {
	t.Helper()
	ab, ac, bc := impl.Under(a, b), impl.Under(a, c), impl.Under(b, c)
	if ab && bc && !ac {
		t.Fatalf("%v is Under %v, that Under %v, but not the first Under the last", a, b, c)
	}
	if impl.Under(impl.Join(a, b), c) != (ac && bc) {
		t.Fatalf("Join of %v and %v is not the least above both: %v", a, b, c)
	}
	if impl.Under(a, impl.Meet(b, c)) != (ab && ac) {
		t.Fatalf("Meet of %v and %v is not the greatest below both: %v", b, c, a)
	}
}

func TestLeastAndSum(t *testing.T) {
	cases := []struct {
		v          []int64
		least, sum int64
	}{
		{[]int64{0}, 0, 0},
		{[]int64{most}, most, most},
		{[]int64{3, 4, 5}, 3, 12},
		{[]int64{5, 3, 4}, 3, 12},
		{[]int64{5, 4, 3}, 3, 12},
		{[]int64{2, 2}, 2, 4},
		{[]int64{0, most}, 0, most},
		{[]int64{8, 7, 6, 5, 4, 3, 2, 1}, 1, 36},
		{[]int64{1, 2, 3, 4, 5, 6, 7, 8}, 1, 36},
		{repeated(0, 8), 0, 0},
		{repeated(most, 8), most, 8 * most},
	}
	for _, c := range cases {
		if got := impl.Least(c.v); got != c.least {
			t.Errorf("Least(%v) is %d", c.v, got)
		}
		if got := impl.Sum(c.v); got != c.sum {
			t.Errorf("Sum(%v) is %d", c.v, got)
		}
	}
	for _, v := range noVectors() {
		if impl.Least(v) != -1 || impl.Sum(v) != -1 {
			t.Errorf("of %v, which is no vector: Least %d, Sum %d", v, impl.Least(v), impl.Sum(v))
		}
	}
}

// Promise 21: what is no vector has the fixed answer, on either side, beside what is one and beside what is none.
func TestPairsWithNoVector(t *testing.T) {
	for _, bad := range noVectors() {
		others := [][]int64{bad, {1}, {0, 0}, {1, 2, 3}, {most, most, most}, repeated(1, 8), nil, repeated(2, 9)}
		for _, other := range others {
			checkRefused(t, bad, other)
			checkRefused(t, other, bad)
		}
	}
}

func TestPairsNotAsLong(t *testing.T) {
	for la := 1; la <= 8; la++ {
		for lb := 1; lb <= 8; lb++ {
			if la != lb {
				checkRefused(t, repeated(0, la), repeated(0, lb))
				checkRefused(t, repeated(0, la), repeated(most, lb))
			}
		}
	}
}

func checkRefused(t *testing.T, a []int64, b []int64) {
	t.Helper()
	if j := impl.Join(a, b); len(j) != 0 {
		t.Errorf("Join(%v, %v) is %v", a, b, j)
	}
	if m := impl.Meet(a, b); len(m) != 0 {
		t.Errorf("Meet(%v, %v) is %v", a, b, m)
	}
	if impl.Under(a, b) {
		t.Errorf("Under(%v, %v) is true", a, b)
	}
}

func everyVectorCall(a []int64, b []int64) {
	impl.VectorOk(a)
	impl.Join(a, b)
	impl.Meet(a, b)
	impl.Under(a, b)
	impl.Least(a)
	impl.Sum(a)
}

// Promise 21: arguments stay, and so does the spare room behind them.
func TestVectorArgumentsStay(t *testing.T) {
	lists := append(noVectors(), vectorSets()[3]...)
	lists = append(lists, []int64{1}, []int64{4, 2}, []int64{3, 9, 1}, []int64{9, 1, 3})
	for _, la := range lists {
		for _, lb := range lists {
			a, b := roomy(la), roomy(lb)
			wasA, wasB := whole(a), whole(b)
			everyVectorCall(a, b)
			if !slices.Equal(whole(a), wasA) || !slices.Equal(whole(b), wasB) {
				t.Fatalf("%v became %v, or %v became %v", wasA, whole(a), wasB, whole(b))
			}
		}
	}
}

// Promise 21: answers are new memory, also where the answer is alike one of the arguments, or these share theirs.
func TestVectorAnswersAreNewMemory(t *testing.T) {
	base := roomy([]int64{1, 5, 2, 4, 3})
	pairs := [][2][]int64{
		{roomy([]int64{1, 5, 2}), roomy([]int64{3, 4, 2})},
		{roomy([]int64{1, 1}), roomy([]int64{2, 2})},
		{roomy([]int64{2, 2}), roomy([]int64{1, 1})},
		{roomy(repeated(7, 8)), roomy(repeated(7, 8))},
		{base, base},
		{base[:4], base[1:]},
		{roomy([]int64{1, 2}), roomy([]int64{1, 2, 3})},
		{roomy([]int64{-1}), roomy([]int64{1})},
		{roomy(nil), roomy([]int64{1})},
	}
	for _, p := range pairs {
		a, b := p[0], p[1]
		wasA, wasB := whole(a), whole(b)
		j, m := impl.Join(a, b), impl.Meet(a, b)
		wantJ, wantM := slices.Clone(impl.Join(a, b)), slices.Clone(impl.Meet(a, b))
		scribble(impl.Join(a, b))
		scribble(impl.Meet(a, b))
		if !slices.Equal(whole(a), wasA) || !slices.Equal(whole(b), wasB) {
			t.Fatalf("an answer shares memory with %v or %v", wasA, wasB)
		}
		if !slices.Equal(j, wantJ) || !slices.Equal(m, wantM) {
			t.Fatalf("of %v and %v: an answer shares memory with another one", wasA, wasB)
		}
	}
}
