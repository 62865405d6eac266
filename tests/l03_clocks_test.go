package tests

import (
	"math"
	"slices"
	"testing"

	"loop.example/g00266/impl"
)

// countedClocks tells a clock in another way than the document does: of each Node how many Events are this one or ahead of it.
func countedClocks(list []impl.Event) [][]int64 {
	table := aheadTable(list)
	out := make([][]int64, len(list))
	for k := range list {
		out[k] = make([]int64, 8)
		for i, e := range list {
			if i == k || table[i][k] {
				out[k][e.Node]++
			}
		}
	}
	return out
}

func alikeLists(a [][]int64, b [][]int64) bool {
	return slices.EqualFunc(a, b, slices.Equal[[]int64])
}

func checkClocks(t *testing.T, list []impl.Event) {
	t.Helper()
	got := impl.Clocks(list)
	if want := countedClocks(list); !alikeLists(got, want) {
		t.Fatalf("of %v: Clocks are %v, not %v", list, got, want)
	}
	checkFidgeAndMattern(t, list, got)
	checkNewest(t, list)
}

// Promise 3, in its own words: Ahead just where the clock is Earlier. What is neither, and not one Event, is Apart.
func checkFidgeAndMattern(t *testing.T, list []impl.Event, clocks [][]int64) {
	t.Helper()
	for i := range list {
		for k := range list {
			ahead, behind := impl.Ahead(list, int64(i), int64(k)), impl.Ahead(list, int64(k), int64(i))
			if got := impl.Earlier(clocks[i], clocks[k]); got != ahead {
				t.Fatalf("of %v: Ahead of %d and %d is %v, Earlier %v", list, i, k, ahead, got)
			}
			if got := impl.Apart(clocks[i], clocks[k]); got != (i != k && !ahead && !behind) {
				t.Fatalf("of %v: Apart of %d and %d is %v", list, i, k, got)
			}
		}
	}
}

func checkNewest(t *testing.T, list []impl.Event) {
	t.Helper()
	clocks := countedClocks(list)
	for node := int64(-2); node <= 9; node++ {
		want := []int64{}
		for k, e := range list {
			if e.Node == node {
				want = clocks[k]
			}
		}
		if got := impl.Newest(list, node); !slices.Equal(got, want) {
			t.Fatalf("of %v: Newest of %d is %v, not %v", list, node, got, want)
		}
	}
}

func TestClocks(t *testing.T) {
	for _, list := range traces() {
		checkClocks(t, list)
	}
}

func TestClocksOfAllSmallTraces(t *testing.T) {
	for length := range 5 {
		for _, list := range allLists(length, smallEvents()...) {
			if isTrace(list) {
				checkClocks(t, list)
			}
		}
	}
}

func TestClocksWrittenOut(t *testing.T) {
	cases := []struct {
		name string
		list []impl.Event
		want [][]int64
	}{
		{"no Event at all", nil, nil},
		{"Node 0", []impl.Event{local(0)}, [][]int64{{1, 0, 0, 0, 0, 0, 0, 0}}},
		{"Node 7", []impl.Event{send(7, 1000)}, [][]int64{{0, 0, 0, 0, 0, 0, 0, 1}}},
		{"a Node that hears with nothing ahead of it", []impl.Event{local(0), send(0, 3), hear(7, 3)},
			[][]int64{{1, 0, 0, 0, 0, 0, 0, 0}, {2, 0, 0, 0, 0, 0, 0, 0}, {2, 0, 0, 0, 0, 0, 0, 1}}},
		{"what is heard is as it was when sent", []impl.Event{send(2, 1), local(2), local(2), local(1), hear(1, 1)},
			[][]int64{{0, 0, 1, 0, 0, 0, 0, 0}, {0, 0, 2, 0, 0, 0, 0, 0}, {0, 0, 3, 0, 0, 0, 0, 0}, {0, 1, 0, 0, 0, 0, 0, 0}, {0, 2, 1, 0, 0, 0, 0, 0}}},
		{"the older mail tells nothing new", []impl.Event{send(2, 5), send(2, 4), hear(1, 4), hear(1, 5)},
			[][]int64{{0, 0, 1, 0, 0, 0, 0, 0}, {0, 0, 2, 0, 0, 0, 0, 0}, {0, 1, 2, 0, 0, 0, 0, 0}, {0, 2, 2, 0, 0, 0, 0, 0}}},
		{"through a third Node", []impl.Event{send(0, 1), hear(1, 1), send(1, 2), hear(2, 2)},
			[][]int64{{1, 0, 0, 0, 0, 0, 0, 0}, {1, 1, 0, 0, 0, 0, 0, 0}, {1, 2, 0, 0, 0, 0, 0, 0}, {1, 2, 1, 0, 0, 0, 0, 0}}},
		{"a Node and a Mail of one number", []impl.Event{local(1), local(1), send(0, 1), hear(3, 1), send(1, 3), hear(0, 3)},
			[][]int64{{0, 1, 0, 0, 0, 0, 0, 0}, {0, 2, 0, 0, 0, 0, 0, 0}, {1, 0, 0, 0, 0, 0, 0, 0}, {1, 0, 0, 1, 0, 0, 0, 0}, {0, 3, 0, 0, 0, 0, 0, 0}, {2, 3, 0, 0, 0, 0, 0, 0}}},
	}
	for _, c := range cases {
		if got := impl.Clocks(c.list); !alikeLists(got, c.want) {
			t.Errorf("%s: Clocks are %v, not %v", c.name, got, c.want)
		}
	}
}

// An EvSend that is ahead of all but itself, and one that all but its EvHear is ahead of.
func TestClocksOfFarMail(t *testing.T) {
	one := slices.Repeat([]impl.Event{local(4)}, 38)
	early := append([]impl.Event{send(4, 1)}, append(slices.Clone(one), hear(5, 1))...)
	if got := impl.Clocks(early)[39]; !slices.Equal(got, []int64{0, 0, 0, 0, 1, 1, 0, 0}) {
		t.Errorf("of mail that was sent first: %v", got)
	}
	late := append(slices.Clone(one), send(4, 1), hear(5, 1))
	if got := impl.Clocks(late)[39]; !slices.Equal(got, []int64{0, 0, 0, 0, 39, 1, 0, 0}) {
		t.Errorf("of mail that was sent last: %v", got)
	}
	checkClocks(t, early)
	checkClocks(t, late)
}

func TestClocksAtTheLimits(t *testing.T) {
	for count := range 43 {
		list, want := locals(count), count
		if count > 40 {
			want = 0
		}
		if got := impl.Clocks(list); len(got) != want {
			t.Errorf("of %d Events: Clocks are %v", count, got)
		}
		for node := range int64(8) {
			has := count <= 40 && int(node) < count
			if got := impl.Newest(list, node); (len(got) == 8) != has || !has && len(got) != 0 {
				t.Errorf("of %d Events: Newest of %d is %v", count, node, got)
			}
		}
	}
	for node := int64(-2); node <= 9; node++ {
		list := []impl.Event{local(node)}
		right := node >= 0 && node <= 7
		if got := impl.Clocks(list); (len(got) == 1) != right || !right && len(got) != 0 {
			t.Errorf("of an Event of Node %d: Clocks are %v", node, got)
		}
		if got := impl.Newest(list, node); (len(got) == 8) != right || !right && len(got) != 0 {
			t.Errorf("of an Event of Node %d: Newest is %v", node, got)
		}
	}
}

func TestNewestOfNoSuchNode(t *testing.T) {
	nodes := []int64{-1, 8, 9, 40, 777, 1000, 1 << 32, -(1 << 32), math.MinInt64, math.MaxInt64}
	for _, list := range traces() {
		for _, node := range nodes {
			if got := impl.Newest(list, node); len(got) != 0 {
				t.Errorf("of %v: Newest of %d is %v", list, node, got)
			}
		}
	}
	// A Mail is no Node, though the one and the other is a number.
	if got := impl.Newest([]impl.Event{send(0, 5), hear(1, 5)}, 5); len(got) != 0 {
		t.Errorf("Newest of a Node without an Event is %v", got)
	}
}

func TestEarlierAndApartOfVectors(t *testing.T) {
	for _, set := range vectorSets() {
		for _, a := range set {
			for _, b := range set {
				checkEarlierAndApart(t, a, b)
			}
		}
	}
}

func checkEarlierAndApart(t *testing.T, a []int64, b []int64) {
	t.Helper()
	someLess, someGreater := false, false
	for i := range a {
		someLess = someLess || a[i] < b[i]
		someGreater = someGreater || a[i] > b[i]
	}
	if got := impl.Earlier(a, b); got != (someLess && !someGreater) {
		t.Fatalf("Earlier(%v, %v) is %v", a, b, got)
	}
	if got := impl.Apart(a, b); got != (someLess && someGreater) {
		t.Fatalf("Apart(%v, %v) is %v", a, b, got)
	}
}

// Vectors of each length that differ at one place, or at two, wherever these are.
func TestEarlierAndApartLookAtEachNumber(t *testing.T) {
	for length := 1; length <= 8; length++ {
		for place := range length {
			for other := range length {
				a, b := repeated(4, length), repeated(4, length)
				a[place], b[other] = 0, most
				checkEarlierAndApart(t, a, b)
				checkEarlierAndApart(t, b, a)
				b[other] = 3
				checkEarlierAndApart(t, a, b)
				checkEarlierAndApart(t, b, a)
			}
		}
	}
}

func checkNeither(t *testing.T, a []int64, b []int64) {
	t.Helper()
	if impl.Earlier(a, b) {
		t.Errorf("Earlier(%v, %v) is true", a, b)
	}
	if impl.Apart(a, b) {
		t.Errorf("Apart(%v, %v) is true", a, b)
	}
}

// Promise 21: what are no vectors as long are neither Earlier nor Apart, on either side.
func TestEarlierAndApartOfNoVectors(t *testing.T) {
	others := [][]int64{{1}, {0, 0}, {0, 5}, {5, 0}, {1, 2, 3}, {3, 2, 1}, {most, 0, most}, repeated(1, 8), {0, 1, 0, 1, 0, 1, 0, 1}, nil, repeated(2, 9)}
	for _, bad := range noVectors() {
		for _, other := range append(others, noVectors()...) {
			checkNeither(t, bad, other)
			checkNeither(t, other, bad)
		}
	}
	nine, mirrored := []int64{0, 1, 2, 3, 4, 5, 6, 7, 8}, []int64{8, 7, 6, 5, 4, 3, 2, 1, 0}
	checkNeither(t, nine, mirrored)
	checkNeither(t, []int64{-1, 1}, []int64{1, -1})
	checkNeither(t, []int64{most + 1, 0}, []int64{0, most + 1})
	checkNeither(t, []int64{0, 0}, []int64{0, most + 1})
	checkNeither(t, []int64{-1, 0}, []int64{0, 0})
}

func TestEarlierAndApartNotAsLong(t *testing.T) {
	for la := range 10 {
		for lb := range 10 {
			if la == lb {
				continue
			}
			checkNeither(t, repeated(0, la), repeated(0, lb))
			checkNeither(t, repeated(0, la), repeated(most, lb))
			checkNeither(t, repeated(most, la), repeated(0, lb))
			a, b := repeated(1, la), repeated(1, lb)
			if la > 1 && lb > 1 {
				a[0], b[1] = 9, 9
			}
			checkNeither(t, a, b)
		}
	}
}

// Promise 21: what is no trace has no clocks, whichever Node is asked for.
func TestClocksOfNoTraces(t *testing.T) {
	lists := append(noTraces(), append(relayed(10), send(0, 1)), append(locals(8), hear(0, 1)))
	for _, list := range lists {
		if got := impl.Clocks(list); len(got) != 0 {
			t.Errorf("Clocks(%v) is %v", list, got)
		}
		for _, node := range []int64{-1, 0, 1, 2, 3, 4, 5, 6, 7, 8, math.MinInt64, math.MaxInt64} {
			if got := impl.Newest(list, node); len(got) != 0 {
				t.Errorf("Newest(%v, %d) is %v", list, node, got)
			}
		}
	}
}

// clockAnswers are all lists of numbers that the chapter answers about a list of Events.
func clockAnswers(list []impl.Event) [][]int64 {
	out := slices.Clone(impl.Clocks(list))
	for node := int64(-1); node <= 8; node++ {
		out = append(out, impl.Newest(list, node))
	}
	return out
}

func copied(lists [][]int64) [][]int64 {
	out := make([][]int64, len(lists))
	for i, list := range lists {
		out[i] = slices.Clone(list)
	}
	return out
}

// Promise 21: arguments stay, and so does the spare room behind them.
func TestClockArgumentsStay(t *testing.T) {
	for _, events := range append(traces(), noTraces()...) {
		list := roomyWith(events, send(3, 777))
		was := whole(list)
		clockAnswers(list)
		if !slices.Equal(whole(list), was) {
			t.Fatalf("%v became %v", was, whole(list))
		}
	}
	lists := append(noVectors(), vectorSets()[3]...)
	lists = append(lists, []int64{1}, []int64{4, 2}, []int64{3, 9, 1}, []int64{9, 1, 3})
	for _, la := range lists {
		for _, lb := range lists {
			a, b := roomy(la), roomy(lb)
			wasA, wasB := whole(a), whole(b)
			impl.Earlier(a, b)
			impl.Apart(a, b)
			if !slices.Equal(whole(a), wasA) || !slices.Equal(whole(b), wasB) {
				t.Fatalf("%v became %v, or %v became %v", wasA, whole(a), wasB, whole(b))
			}
		}
	}
}

// Promise 21: writing over one clock, and the room behind it, changes neither the argument nor another clock, of its own answer or of another one.
func TestClockAnswersAreNewMemory(t *testing.T) {
	for _, events := range append(traces(), noTraces()...) {
		list := roomyWith(events, send(3, 777))
		was := whole(list)
		earlier := clockAnswers(list)
		want := copied(earlier)
		for i := range want {
			answers := clockAnswers(list)
			scribble(answers[i])
			answers[i] = want[i]
			if !alikeLists(answers, want) {
				t.Fatalf("of %v: clock %d shares memory with another one", was, i)
			}
		}
		if !slices.Equal(whole(list), was) {
			t.Fatalf("an answer shares memory with %v", was)
		}
		if !alikeLists(earlier, want) || !alikeLists(clockAnswers(list), want) {
			t.Fatalf("of %v: an answer shares memory with another one", was)
		}
	}
}

// The list that holds the clocks is new memory, too.
func TestListsOfClocksAreNewMemory(t *testing.T) {
	for _, list := range traces() {
		first, second := impl.Clocks(list), impl.Clocks(list)
		want := copied(first)
		clear(second[:cap(second)])
		if !alikeLists(first, want) || !alikeLists(impl.Clocks(list), want) {
			t.Fatalf("of %v: two answers are one list", list)
		}
	}
}
