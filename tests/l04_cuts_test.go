package tests

import (
	"math"
	"math/rand"
	"slices"
	"testing"

	"loop.example/g00266/impl"
)

// counted is how many Events each Node has: the cut of all Events.
func counted(list []impl.Event) []int64 {
	out := make([]int64, 8)
	for _, e := range list {
		out[e.Node]++
	}
	return out
}

func isCut(list []impl.Event, cut []int64) bool {
	if !isTrace(list) || len(cut) != 8 {
		return false
	}
	for node, have := range counted(list) {
		if cut[node] < 0 || cut[node] > have {
			return false
		}
	}
	return true
}

// isInCut: are fewer Events of its Node ahead of Event k in the list than the cut has of them?
func isInCut(list []impl.Event, cut []int64, k int) bool {
	return counted(list[:k])[list[k].Node] < cut[list[k].Node]
}

func sendNumber(list []impl.Event, mail int64) int {
	return slices.IndexFunc(list, func(e impl.Event) bool { return e.Kind == impl.EvSend && e.Mail == mail })
}

// firstCrossing is the number of an EvHear in the cut whose EvSend is not in it, or -1.
func firstCrossing(list []impl.Event, cut []int64) int {
	for k, e := range list {
		if e.Kind == impl.EvHear && isInCut(list, cut, k) && !isInCut(list, cut, sendNumber(list, e.Mail)) {
			return k
		}
	}
	return -1
}

func isConsistent(list []impl.Event, cut []int64) bool {
	return isCut(list, cut) && firstCrossing(list, cut) < 0
}

// shrunk takes what crosses out of the cut, one by one, with all behind it.
func shrunk(list []impl.Event, cut []int64) []int64 {
	out := slices.Clone(cut)
	for k := firstCrossing(list, out); k >= 0; k = firstCrossing(list, out) {
		out[list[k].Node] = counted(list[:k])[list[k].Node]
	}
	return out
}

// grown takes the EvSend of what crosses into the cut, one by one, with all ahead of it.
func grown(list []impl.Event, cut []int64) []int64 {
	out := slices.Clone(cut)
	for k := firstCrossing(list, out); k >= 0; k = firstCrossing(list, out) {
		i := sendNumber(list, list[k].Mail)
		out[list[i].Node] = counted(list[:i+1])[list[i].Node]
	}
	return out
}

// unheard goes up through all Mails there can be.
func unheard(list []impl.Event, cut []int64) []int64 {
	out := []int64{}
	for mail := int64(1); mail <= 1000; mail++ {
		i := sendNumber(list, mail)
		if i < 0 || !isInCut(list, cut, i) {
			continue
		}
		heard := false
		for k, e := range list {
			heard = heard || e.Kind == impl.EvHear && e.Mail == mail && isInCut(list, cut, k)
		}
		if !heard {
			out = append(out, mail)
		}
	}
	return out
}

func allCuts(list []impl.Event) [][]int64 {
	out := [][]int64{{}}
	for _, have := range counted(list) {
		var longer [][]int64
		for _, cut := range out {
			for n := range have + 1 {
				longer = append(longer, append(slices.Clone(cut), n))
			}
		}
		out = longer
	}
	return out
}

// drawnCuts are some cuts of a trace by lot, with the least and the greatest one.
func drawnCuts(lot *rand.Rand, list []impl.Event, count int) [][]int64 {
	all := counted(list)
	out := [][]int64{repeated(0, 8), all}
	for range count {
		cut := make([]int64, 8)
		for node, have := range all {
			cut[node] = lot.Int63n(have + 1)
		}
		out = append(out, cut)
	}
	return out
}

func checkCut(t *testing.T, list []impl.Event, cut []int64) {
	t.Helper()
	cut = slices.Clone(cut)
	consistent := isConsistent(list, cut)
	if got := impl.CutOk(list, cut); got != consistent {
		t.Fatalf("of %v: CutOk of %v is %v", list, cut, got)
	}
	if got, want := impl.Within(list, cut), shrunk(list, cut); !slices.Equal(got, want) {
		t.Fatalf("of %v: Within %v is %v, not %v", list, cut, got, want)
	}
	if got, want := impl.Around(list, cut), grown(list, cut); !slices.Equal(got, want) {
		t.Fatalf("of %v: Around %v is %v, not %v", list, cut, got, want)
	}
	want := []int64{}
	if consistent {
		want = unheard(list, cut)
	}
	if got := impl.Flying(list, cut); !slices.Equal(got, want) {
		t.Fatalf("of %v: Flying in %v are %v, not %v", list, cut, got, want)
	}
}

// Promise 4, its second half, in its own words: against every consistent cut there is.
func checkGreatestAndLeast(t *testing.T, list []impl.Event, cut []int64, consistent [][]int64) {
	t.Helper()
	within, around := impl.Within(list, slices.Clone(cut)), impl.Around(list, slices.Clone(cut))
	if !impl.CutOk(list, within) || !impl.Under(within, cut) {
		t.Fatalf("of %v: Within %v is %v", list, cut, within)
	}
	if !impl.CutOk(list, around) || !impl.Under(cut, around) {
		t.Fatalf("of %v: Around %v is %v", list, cut, around)
	}
	for _, other := range consistent {
		if impl.Under(other, cut) && !impl.Under(other, within) {
			t.Fatalf("of %v: Within %v is %v, but %v is Under it, too", list, cut, within, other)
		}
		if impl.Under(cut, other) && !impl.Under(around, other) {
			t.Fatalf("of %v: Around %v is %v, but it is Under %v, too", list, cut, around, other)
		}
	}
}

// Promise 4, its first half, in its own words.
func checkJoinsAndMeets(t *testing.T, list []impl.Event, consistent [][]int64) {
	t.Helper()
	for _, a := range consistent {
		for _, b := range consistent {
			if j := impl.Join(a, b); !impl.CutOk(list, j) {
				t.Fatalf("of %v: Join of %v and %v, %v, is not CutOk", list, a, b, j)
			}
			if m := impl.Meet(a, b); !impl.CutOk(list, m) {
				t.Fatalf("of %v: Meet of %v and %v, %v, is not CutOk", list, a, b, m)
			}
		}
	}
}

func checkAllCuts(t *testing.T, list []impl.Event) {
	t.Helper()
	cuts := allCuts(list)
	var consistent [][]int64
	for _, cut := range cuts {
		checkCut(t, list, cut)
		if isConsistent(list, cut) {
			consistent = append(consistent, cut)
		}
	}
	for _, cut := range cuts {
		checkGreatestAndLeast(t, list, cut, consistent)
	}
	checkJoinsAndMeets(t, list, consistent)
}

func TestCutsOfAllSmallTraces(t *testing.T) {
	for length := range 5 {
		for _, list := range allLists(length, smallEvents()...) {
			if isTrace(list) {
				checkAllCuts(t, list)
			}
		}
	}
}

func TestAllCutsOfDrawnTraces(t *testing.T) {
	lot := rand.New(rand.NewSource(4))
	for i := range 24 {
		checkAllCuts(t, drawn(lot, 4+i%6, 2+i%3))
	}
	checkAllCuts(t, relayed(14))
	checkAllCuts(t, []impl.Event{send(0, 1), hear(1, 1), hear(2, 1), hear(3, 1), hear(4, 1), hear(5, 1), hear(6, 1), hear(7, 1)})
}

func TestCutsOfTraces(t *testing.T) {
	lot := rand.New(rand.NewSource(5))
	for _, list := range traces() {
		var consistent [][]int64
		for _, cut := range drawnCuts(lot, list, 8) {
			checkCut(t, list, cut)
			consistent = append(consistent, shrunk(list, cut), grown(list, cut))
		}
		checkGreatestAndLeast(t, list, drawnCuts(lot, list, 1)[2], consistent)
		checkJoinsAndMeets(t, list, consistent)
	}
}

// Whatever an Event may know of is a consistent cut: the one Around what its Node did up to it.
func TestClocksAreConsistentCuts(t *testing.T) {
	for _, list := range traces() {
		for k, clock := range impl.Clocks(list) {
			if !impl.CutOk(list, clock) {
				t.Fatalf("of %v: the clock of %d, %v, is no consistent cut", list, k, clock)
			}
			node := list[k].Node
			alone := make([]int64, 8)
			alone[node] = clock[node]
			if got := impl.Around(list, alone); !slices.Equal(got, clock) {
				t.Fatalf("of %v: Around %v is %v, not the clock of %d", list, alone, got, k)
			}
		}
	}
}

func TestCutsWrittenOut(t *testing.T) {
	list := []impl.Event{send(0, 7), local(1), hear(1, 7), send(0, 3), send(1, 9), hear(2, 9), hear(2, 3), hear(3, 9)}
	cases := []struct {
		name                   string
		cut                    []int64
		ok                     bool
		within, around, flying []int64
	}{
		{"eight noughts", []int64{0, 0, 0, 0, 0, 0, 0, 0}, true, []int64{0, 0, 0, 0, 0, 0, 0, 0}, []int64{0, 0, 0, 0, 0, 0, 0, 0}, nil},
		{"all Events", []int64{2, 3, 2, 1, 0, 0, 0, 0}, true, []int64{2, 3, 2, 1, 0, 0, 0, 0}, []int64{2, 3, 2, 1, 0, 0, 0, 0}, nil},
		{"an EvHear without its EvSend", []int64{0, 2, 0, 0, 0, 0, 0, 0}, false, []int64{0, 1, 0, 0, 0, 0, 0, 0}, []int64{1, 2, 0, 0, 0, 0, 0, 0}, nil},
		{"an EvHear with its EvSend", []int64{1, 2, 0, 0, 0, 0, 0, 0}, true, []int64{1, 2, 0, 0, 0, 0, 0, 0}, []int64{1, 2, 0, 0, 0, 0, 0, 0}, nil},
		{"a step through a third Node", []int64{0, 3, 1, 1, 0, 0, 0, 0}, false, []int64{0, 1, 0, 0, 0, 0, 0, 0}, []int64{1, 3, 1, 1, 0, 0, 0, 0}, nil},
		{"from nothing but the last step", []int64{0, 0, 2, 0, 0, 0, 0, 0}, false, []int64{0, 0, 0, 0, 0, 0, 0, 0}, []int64{2, 3, 2, 0, 0, 0, 0, 0}, nil},
		{"two under way, the later one with the less number", []int64{2, 0, 0, 0, 0, 0, 0, 0}, true, []int64{2, 0, 0, 0, 0, 0, 0, 0}, []int64{2, 0, 0, 0, 0, 0, 0, 0}, []int64{3, 7}},
		{"one heard, two under way", []int64{2, 3, 0, 0, 0, 0, 0, 0}, true, []int64{2, 3, 0, 0, 0, 0, 0, 0}, []int64{2, 3, 0, 0, 0, 0, 0, 0}, []int64{3, 9}},
		{"heard by one of two is heard", []int64{1, 3, 0, 1, 0, 0, 0, 0}, true, []int64{1, 3, 0, 1, 0, 0, 0, 0}, []int64{1, 3, 0, 1, 0, 0, 0, 0}, nil},
	}
	for _, c := range cases {
		if got := impl.CutOk(list, c.cut); got != c.ok {
			t.Errorf("%s: CutOk is %v", c.name, got)
		}
		if got := impl.Within(list, c.cut); !slices.Equal(got, c.within) {
			t.Errorf("%s: Within is %v, not %v", c.name, got, c.within)
		}
		if got := impl.Around(list, c.cut); !slices.Equal(got, c.around) {
			t.Errorf("%s: Around is %v, not %v", c.name, got, c.around)
		}
		if got := impl.Flying(list, c.cut); !slices.Equal(got, c.flying) {
			t.Errorf("%s: Flying are %v, not %v", c.name, got, c.flying)
		}
	}
}

// A Mail that nobody hears flies in every cut that it is sent in; one that many hear, only till the first one does.
func TestFlyingOfMailHeardByNoneAndByMany(t *testing.T) {
	list := []impl.Event{send(0, 1000), send(0, 1), hear(1, 1), hear(2, 1), hear(3, 1), hear(4, 1), hear(5, 1), hear(6, 1), hear(7, 1)}
	for _, cut := range allCuts(list) {
		want := []int64{}
		switch heard := impl.Sum(cut[1:]); {
		case heard > 0 && cut[0] < 2:
		case cut[0] == 2 && heard == 0:
			want = []int64{1, 1000}
		case cut[0] > 0:
			want = []int64{1000}
		}
		if got := impl.Flying(list, cut); !slices.Equal(got, want) {
			t.Errorf("Flying in %v are %v, not %v", cut, got, want)
		}
	}
}

// As many Mails as there can be, sent in falling order by one Node and by all.
func TestFlyingRises(t *testing.T) {
	for _, nodes := range []int64{1, 8} {
		var list []impl.Event
		var want []int64
		for i := range int64(40) {
			list = append(list, send(i%nodes, 1000-i))
			want = append(want, 961+i)
		}
		if got := impl.Flying(list, counted(list)); !slices.Equal(got, want) {
			t.Errorf("of %d Nodes: Flying are %v", nodes, got)
		}
	}
}

// checkNoCut: what is no trace, or no cut of it, has the fixed answers.
func checkNoCut(t *testing.T, list []impl.Event, cut []int64) {
	t.Helper()
	if impl.CutOk(list, cut) {
		t.Errorf("CutOk(%v, %v) is true", list, cut)
	}
	if got := impl.Within(list, cut); len(got) != 0 {
		t.Errorf("Within(%v, %v) is %v", list, cut, got)
	}
	if got := impl.Around(list, cut); len(got) != 0 {
		t.Errorf("Around(%v, %v) is %v", list, cut, got)
	}
	if got := impl.Flying(list, cut); len(got) != 0 {
		t.Errorf("Flying(%v, %v) is %v", list, cut, got)
	}
}

func TestCutsAtTheLimitOfEvents(t *testing.T) {
	for count := range 43 {
		list := locals(count)
		for _, cut := range [][]int64{repeated(0, 8), counted(list)} {
			if count > 40 {
				checkNoCut(t, list, cut)
			} else {
				checkCut(t, list, cut)
			}
		}
	}
	long := slices.Repeat([]impl.Event{local(6)}, 40)
	checkCut(t, long, []int64{0, 0, 0, 0, 0, 0, 40, 0})
	checkNoCut(t, long, []int64{0, 0, 0, 0, 0, 0, 41, 0})
}

// A number out of range at each place, beside numbers that are not.
func TestNumbersThatNoCutHas(t *testing.T) {
	for _, list := range traces() {
		all := counted(list)
		for node, have := range all {
			bad := []int64{-1, -2, have + 1, have + 2, 41, 1 << 32, -(1 << 32), math.MinInt64, math.MaxInt64}
			for _, n := range bad {
				for _, base := range [][]int64{all, repeated(0, 8)} {
					cut := slices.Clone(base)
					cut[node] = n
					checkNoCut(t, list, cut)
				}
			}
		}
	}
}

func TestCutsNotOfEightNumbers(t *testing.T) {
	for _, list := range traces() {
		for length := range 12 {
			cut := make([]int64, length)
			copy(cut, counted(list))
			if length == 8 {
				checkCut(t, list, cut)
				continue
			}
			checkNoCut(t, list, cut)
			checkNoCut(t, list, repeated(0, length))
		}
		checkNoCut(t, list, nil)
		checkNoCut(t, list, repeated(0, 1000))
	}
}

func TestCutsOfNoTraces(t *testing.T) {
	lists := append(noTraces(), append(relayed(10), send(0, 1)), append(locals(8), hear(0, 1)))
	cuts := append(allLists[int64](8, 0, 1)[:40:40], repeated(0, 8), repeated(1, 8), repeated(5, 8), repeated(6, 8), repeated(-1, 8), nil, repeated(0, 7), repeated(0, 9))
	for _, list := range lists {
		for _, cut := range cuts {
			checkNoCut(t, list, cut)
		}
	}
}

// cutCases are arguments of every kind: consistent cuts, such as are crossed, and what is no cut, of traces and of what is none.
func cutCases() (lists [][]impl.Event, cuts [][][]int64) {
	lot := rand.New(rand.NewSource(6))
	for _, list := range traces() {
		some := drawnCuts(lot, list, 4)
		some = append(some, shrunk(list, some[2]), grown(list, some[3]), nil, repeated(0, 7), repeated(-1, 8), repeated(41, 8))
		lists, cuts = append(lists, list), append(cuts, some)
	}
	for _, list := range noTraces() {
		lists, cuts = append(lists, list), append(cuts, [][]int64{nil, repeated(0, 8), repeated(1, 8), repeated(0, 9)})
	}
	return lists, cuts
}

func cutAnswers(list []impl.Event, cut []int64) [][]int64 {
	return [][]int64{impl.Within(list, cut), impl.Around(list, cut), impl.Flying(list, cut)}
}

// Promise 21: arguments stay, and so does the spare room behind them.
func TestCutArgumentsStay(t *testing.T) {
	lists, cuts := cutCases()
	for i, events := range lists {
		for _, numbers := range cuts[i] {
			list, cut := roomyWith(events, send(3, 777)), roomy(numbers)
			wasList, wasCut := whole(list), whole(cut)
			impl.CutOk(list, cut)
			cutAnswers(list, cut)
			if !slices.Equal(whole(list), wasList) || !slices.Equal(whole(cut), wasCut) {
				t.Fatalf("%v became %v, or %v became %v", wasList, whole(list), wasCut, whole(cut))
			}
		}
	}
}

// Promise 21: writing over one answer, and the room behind it, changes neither an argument nor another answer, also where the answer is the cut as it came.
func TestCutAnswersAreNewMemory(t *testing.T) {
	lists, cuts := cutCases()
	for i, events := range lists {
		for _, numbers := range cuts[i] {
			list, cut := roomyWith(events, send(3, 777)), roomy(numbers)
			wasList, wasCut := whole(list), whole(cut)
			earlier := cutAnswers(list, cut)
			want := copied(earlier)
			for k := range want {
				answers := cutAnswers(list, cut)
				scribble(answers[k])
				answers[k] = want[k]
				if !alikeLists(answers, want) {
					t.Fatalf("of %v and %v: answer %d shares memory with another one", wasList, wasCut, k)
				}
			}
			if !slices.Equal(whole(list), wasList) || !slices.Equal(whole(cut), wasCut) {
				t.Fatalf("an answer shares memory with %v or %v", wasList, wasCut)
			}
			if !alikeLists(earlier, want) || !alikeLists(cutAnswers(list, cut), want) {
				t.Fatalf("of %v and %v: an answer shares memory with another one", wasList, wasCut)
			}
		}
	}
}
