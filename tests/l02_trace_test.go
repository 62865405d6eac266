package tests

import (
	"math"
	"math/rand"
	"slices"
	"testing"

	"loop.example/g00266/impl"
)

func local(node int64) impl.Event { return impl.Event{Node: node, Kind: impl.EvLocal} }

func send(node int64, mail int64) impl.Event {
	return impl.Event{Node: node, Kind: impl.EvSend, Mail: mail}
}

func hear(node int64, mail int64) impl.Event {
	return impl.Event{Node: node, Kind: impl.EvHear, Mail: mail}
}

func locals(count int) []impl.Event {
	var out []impl.Event
	for i := range count {
		out = append(out, local(int64(i%8)))
	}
	return out
}

// relayed goes from node to node by one mail after another, so that the first Event is ahead of the last one through each step between.
func relayed(events int) []impl.Event {
	var out []impl.Event
	for i := range int64(events / 2) {
		out = append(out, send(i%8, i+1), hear((i+1)%8, i+1))
	}
	return out
}

// drawn is a trace drawn by lot; the lot is the same in every run.
func drawn(lot *rand.Rand, events int, nodes int) []impl.Event {
	var out []impl.Event
	for len(out) < events {
		node := int64(lot.Intn(nodes))
		e := local(node)
		switch lot.Intn(3) {
		case 1:
			e = send(node, int64(lot.Intn(1000)+1))
		case 2:
			if len(out) > 0 {
				e = hear(node, out[lot.Intn(len(out))].Mail)
			}
		}
		if longer := append(slices.Clone(out), e); isTrace(longer) {
			out = longer
		}
	}
	return out
}

// traces are some of each shape: short and long, of one Node and of all, with one mail heard by many.
func traces() [][]impl.Event {
	out := [][]impl.Event{
		nil, {}, {local(0)}, {local(7)}, {send(0, 1)}, {send(7, 1000)},
		{send(0, 1), local(1), hear(1, 1), local(0)},
		{send(0, 1), hear(1, 1), hear(2, 1), hear(3, 1), hear(4, 1), hear(5, 1), hear(6, 1), hear(7, 1)},
		{local(3), send(3, 9), local(3), local(5), hear(5, 9), send(5, 8), hear(3, 8), hear(0, 8), hear(0, 9)},
		{send(2, 5), send(2, 4), hear(1, 4), hear(1, 5), local(2)},
		locals(8), locals(40), relayed(2), relayed(10), relayed(40),
		slices.Repeat([]impl.Event{local(6)}, 40),
	}
	lot := rand.New(rand.NewSource(2))
	for i := range 60 {
		out = append(out, drawn(lot, 1+i%40, 1+i%8))
	}
	for i := range 20 {
		out = append(out, drawn(lot, 40, 1+i%8))
	}
	return out
}

// noTraces are lists of Events that are one fault away from a trace.
func noTraces() [][]impl.Event {
	return [][]impl.Event{
		locals(41), append(relayed(40), local(0)), locals(1000),
		{local(-1)}, {local(8)}, {local(math.MinInt64)}, {local(math.MaxInt64)},
		{send(-1, 1)}, {send(8, 1)}, {send(0, 1), hear(-1, 1)}, {send(0, 1), hear(8, 1)},
		{send(0, 0)}, {send(0, -1)}, {send(0, 1001)}, {send(0, math.MinInt64)}, {send(0, math.MaxInt64)},
		{send(0, 0), hear(1, 0)}, {send(0, -1), hear(1, -1)}, {send(0, 1001), hear(1, 1001)},
		{send(0, 1), hear(1, 0)}, {send(0, 1000), hear(1, 1001)},
		{{Node: 0, Kind: 0}}, {{Node: 0, Kind: -1}}, {{Node: 0, Kind: 4}}, {{Node: 0, Kind: math.MaxInt64}}, {{Node: 0, Kind: math.MinInt64}},
		{{Node: 0, Kind: 0, Mail: 1}}, {{Node: 0, Kind: 4, Mail: 1}},
		{send(0, 1), {Node: 1, Kind: 4, Mail: 1}}, {send(0, 1), {Node: 1, Kind: 0, Mail: 1}},
		{{Node: 0, Kind: impl.EvLocal, Mail: 1}}, {{Node: 0, Kind: impl.EvLocal, Mail: -1}}, {{Node: 0, Kind: impl.EvLocal, Mail: 1000}},
		{send(0, 1), {Node: 0, Kind: impl.EvLocal, Mail: 1}},
		{send(0, 1), send(0, 1)}, {send(0, 1), send(1, 1)}, {send(0, 1), hear(1, 1), send(1, 1)}, {send(0, 1), hear(1, 1), send(2, 1)},
		{send(0, 1), hear(1, 1), hear(1, 1)}, {send(0, 1), hear(1, 1), hear(2, 1), hear(1, 1)},
		{hear(1, 1)}, {hear(1, 1), send(0, 1)}, {send(0, 1), hear(1, 2)}, {send(0, 2), hear(1, 1), send(0, 1)},
		{send(0, 1), hear(0, 1)}, {send(0, 1), hear(1, 1), hear(0, 1)}, {send(7, 1), hear(7, 1)},
	}
}

// isTrace tells the document's words one by one, over all pairs.
func isTrace(list []impl.Event) bool {
	if len(list) > 40 {
		return false
	}
	for k, e := range list {
		inRange := e.Node >= 0 && e.Node <= 7 && e.Kind >= 1 && e.Kind <= 3
		if e.Kind == impl.EvLocal {
			inRange = inRange && e.Mail == 0
		} else {
			inRange = inRange && e.Mail >= 1 && e.Mail <= 1000
		}
		if !inRange {
			return false
		}
		heardRight := e.Kind != impl.EvHear
		for i, other := range list {
			alike := other.Kind == e.Kind && other.Mail == e.Mail && i != k
			if alike && (e.Kind == impl.EvSend || e.Kind == impl.EvHear && other.Node == e.Node) {
				return false
			}
			if i < k && other.Kind == impl.EvSend && other.Mail == e.Mail && other.Node != e.Node {
				heardRight = true
			}
		}
		if !heardRight {
			return false
		}
	}
	return true
}

// aheadTable widens the one-step relation of the document by whatever is between, over all threes.
func aheadTable(list []impl.Event) [][]bool {
	out := make([][]bool, len(list))
	for i, a := range list {
		out[i] = make([]bool, len(list))
		for k, b := range list {
			mailed := a.Kind == impl.EvSend && b.Kind == impl.EvHear && a.Mail == b.Mail
			out[i][k] = i < k && a.Node == b.Node || mailed
		}
	}
	for between := range list {
		for i := range list {
			for k := range list {
				out[i][k] = out[i][k] || out[i][between] && out[between][k]
			}
		}
	}
	return out
}

// smallEvents make, four at a time, traces and lists that break each rule in each order.
func smallEvents() []impl.Event {
	return []impl.Event{
		local(0), local(1), send(0, 1), send(1, 1), send(1, 2), hear(0, 1), hear(1, 1), hear(2, 1), hear(0, 2),
		{Node: 0, Kind: impl.EvLocal, Mail: 1}, send(0, 0),
	}
}

func TestTraceOk(t *testing.T) {
	for _, list := range traces() {
		if !impl.TraceOk(list) {
			t.Errorf("TraceOk(%v) is false", list)
		}
	}
	for _, list := range noTraces() {
		if impl.TraceOk(list) {
			t.Errorf("TraceOk(%v) is true", list)
		}
	}
	if impl.EvLocal != 1 || impl.EvSend != 2 || impl.EvHear != 3 {
		t.Errorf("the kinds are %d, %d, %d", impl.EvLocal, impl.EvSend, impl.EvHear)
	}
}

// Each limit is met exactly and passed by one.
func TestTraceOkAtTheLimits(t *testing.T) {
	for node := int64(-2); node <= 9; node++ {
		for _, mail := range []int64{-1, 0, 1, 2, 999, 1000, 1001} {
			for kind := int64(-1); kind <= 5; kind++ {
				alone := []impl.Event{{Node: node, Kind: kind, Mail: mail}}
				behind := []impl.Event{send(4, mail), alone[0]}
				for _, list := range [][]impl.Event{alone, behind} {
					if got := impl.TraceOk(list); got != isTrace(list) {
						t.Errorf("TraceOk(%v) is %v", list, got)
					}
				}
			}
		}
	}
	for count := range 43 {
		if got := impl.TraceOk(locals(count)); got != (count <= 40) {
			t.Errorf("TraceOk of %d Events is %v", count, got)
		}
	}
}

// Every list of up to four small Events: what is ahead, and whether it is a trace, as the document's words say.
func TestAllSmallTraces(t *testing.T) {
	for length := range 5 {
		for _, list := range allLists(length, smallEvents()...) {
			if got := impl.TraceOk(list); got != isTrace(list) {
				t.Fatalf("TraceOk(%v) is %v", list, got)
			}
			if isTrace(list) {
				checkTrace(t, list)
			}
		}
	}
}

// One bad Event at any place makes any trace none.
func TestTraceOkLooksAtEachEvent(t *testing.T) {
	base := relayed(38)
	bad := []impl.Event{local(8), local(-1), {Node: 1, Kind: impl.EvLocal, Mail: 1}, {Node: 1, Kind: 4, Mail: 999}, {Node: 1, Kind: 0}, send(1, 1001), send(1, 0), hear(1, 999), send(1, 5)}
	for place := range len(base) + 1 {
		for _, e := range bad {
			if list := slices.Insert(slices.Clone(base), place, e); impl.TraceOk(list) {
				t.Errorf("TraceOk is true with %v at %d", e, place)
			}
		}
	}
}

func TestTraces(t *testing.T) {
	for _, list := range traces() {
		checkTrace(t, list)
	}
}

func checkTrace(t *testing.T, list []impl.Event) {
	t.Helper()
	table := aheadTable(list)
	checkAheadAndPast(t, list, table)
	checkStamps(t, list, table)
	checkOrder(t, list)
	checkLamport(t, list)
}

func checkAheadAndPast(t *testing.T, list []impl.Event, table [][]bool) {
	t.Helper()
	for k := range list {
		want := []int64{}
		for i := range list {
			if got := impl.Ahead(list, int64(i), int64(k)); got != table[i][k] {
				t.Fatalf("of %v: Ahead of %d and %d is %v", list, i, k, got)
			}
			if table[i][k] {
				want = append(want, int64(i))
			}
		}
		if got := impl.Past(list, int64(k)); !slices.Equal(got, want) {
			t.Fatalf("of %v: Past of %d is %v, not %v", list, k, got, want)
		}
	}
}

// A stamp is as great as the longest row of Events, each ahead of the next, that ends with this one.
func checkStamps(t *testing.T, list []impl.Event, table [][]bool) {
	t.Helper()
	want := make([]int64, len(list))
	for k := range list {
		for i := range k {
			if table[i][k] {
				want[k] = max(want[k], want[i])
			}
		}
		want[k]++
	}
	if got := impl.Stamps(list); !slices.Equal(got, want) {
		t.Fatalf("of %v: Stamps are %v, not %v", list, got, want)
	}
}

func checkOrder(t *testing.T, list []impl.Event) {
	t.Helper()
	stamps, order := impl.Stamps(list), impl.Order(list)
	if len(order) != len(list) {
		t.Fatalf("of %v: Order is %v", list, order)
	}
	for at, k := range order {
		if k < 0 || k >= int64(len(list)) || slices.Index(order, k) != at {
			t.Fatalf("of %v: Order is %v", list, order)
		}
		if at == 0 {
			continue
		}
		i := order[at-1]
		if stamps[i] > stamps[k] || stamps[i] == stamps[k] && list[i].Node >= list[k].Node {
			t.Fatalf("of %v with stamps %v: Order is %v", list, stamps, order)
		}
	}
}

// Promise 2, in its own words.
func checkLamport(t *testing.T, list []impl.Event) {
	t.Helper()
	stamps, order := impl.Stamps(list), impl.Order(list)
	for i := range int64(len(list)) {
		for k := range int64(len(list)) {
			if !impl.Ahead(list, i, k) {
				continue
			}
			if stamps[i] >= stamps[k] {
				t.Fatalf("of %v: %d is Ahead of %d, stamps %v", list, i, k, stamps)
			}
			if slices.Index(order, i) >= slices.Index(order, k) {
				t.Fatalf("of %v: %d is Ahead of %d, Order %v", list, i, k, order)
			}
		}
	}
}

func TestAheadThroughManySteps(t *testing.T) {
	list := relayed(40)
	for i := range int64(40) {
		for k := range int64(40) {
			if impl.Ahead(list, i, k) != (i < k) {
				t.Errorf("Ahead of %d and %d is %v", i, k, i >= k)
			}
		}
	}
	if stamps := impl.Stamps(list); stamps[39] != 40 {
		t.Errorf("the stamps of a chain of 40 are %v", stamps)
	}
	if past := impl.Past(list, 39); len(past) != 39 {
		t.Errorf("Past of the last one is %v", past)
	}
}

// What is heard tells nothing of what its sender did later, nor of who else hears it.
func TestAheadStopsAtWhatWasSent(t *testing.T) {
	list := []impl.Event{local(0), send(0, 1), local(0), hear(1, 1), hear(2, 1), local(1)}
	if got := impl.Past(list, 5); !slices.Equal(got, []int64{0, 1, 3}) {
		t.Errorf("Past is %v", got)
	}
	if impl.Ahead(list, 2, 5) || impl.Ahead(list, 4, 5) || impl.Ahead(list, 3, 4) || impl.Ahead(list, 5, 3) {
		t.Error("something is ahead that is not")
	}
	if got := impl.Stamps(list); !slices.Equal(got, []int64{1, 2, 3, 3, 3, 4}) {
		t.Errorf("Stamps are %v", got)
	}
	if got := impl.Order(list); !slices.Equal(got, []int64{0, 1, 2, 3, 4, 5}) {
		t.Errorf("Order is %v", got)
	}
}

// Alike stamps go by Node, wherever they stand in the list.
func TestOrderOfAlikeStamps(t *testing.T) {
	list := []impl.Event{local(7), local(2), local(5), local(2), local(0), local(7)}
	if got := impl.Order(list); !slices.Equal(got, []int64{4, 1, 2, 0, 3, 5}) {
		t.Errorf("Order is %v", got)
	}
}

func TestNumbersOutOfRange(t *testing.T) {
	for _, list := range traces() {
		count := int64(len(list))
		for _, bad := range []int64{-1, -2, -count, -count - 1, count, count + 1, 40, 41, math.MinInt64, math.MaxInt64, math.MinInt64 + 1, 1 << 32, -(1 << 32)} {
			if bad >= 0 && bad < count {
				continue
			}
			if got := impl.Past(list, bad); len(got) != 0 {
				t.Errorf("of %v: Past of %d is %v", list, bad, got)
			}
			for _, other := range []int64{0, count - 1, count, bad, -1} {
				if impl.Ahead(list, bad, other) || impl.Ahead(list, other, bad) {
					t.Errorf("of %v: Ahead of %d and %d is true", list, bad, other)
				}
			}
		}
	}
}

// Promise 21: what is no trace has the fixed answers, whichever numbers are asked for.
func TestNoTraces(t *testing.T) {
	for _, list := range noTraces() {
		if got := impl.Stamps(list); len(got) != 0 {
			t.Errorf("Stamps(%v) is %v", list, got)
		}
		if got := impl.Order(list); len(got) != 0 {
			t.Errorf("Order(%v) is %v", list, got)
		}
		numbers := []int64{-1, 0, 1, 2, 39, 40, 41, int64(len(list) - 1), int64(len(list)), math.MinInt64, math.MaxInt64}
		for _, k := range numbers {
			if got := impl.Past(list, k); len(got) != 0 {
				t.Errorf("Past(%v, %d) is %v", list, k, got)
			}
			for _, i := range numbers {
				if impl.Ahead(list, i, k) {
					t.Errorf("Ahead(%v, %d, %d) is true", list, i, k)
				}
			}
		}
	}
}

// A list with a fault at its end has the trace ahead of it, but it is none itself.
func TestFaultBehindATrace(t *testing.T) {
	list := append(relayed(10), send(0, 1))
	if impl.Ahead(list, 0, 1) || len(impl.Past(list, 5)) != 0 || len(impl.Stamps(list)) != 0 || len(impl.Order(list)) != 0 {
		t.Errorf("of %v something is answered", list)
	}
}

// traceAnswers are all lists that the chapter answers about a list of Events.
func traceAnswers(list []impl.Event) [][]int64 {
	out := [][]int64{impl.Stamps(list), impl.Order(list)}
	for k := range int64(len(list)) + 2 {
		out = append(out, impl.Past(list, k-1))
	}
	return out
}

// Promise 21: arguments stay, and so does the spare room behind them.
func TestTraceArgumentsStay(t *testing.T) {
	for _, events := range append(traces(), noTraces()...) {
		list := roomyWith(events, send(3, 777))
		was := whole(list)
		impl.TraceOk(list)
		impl.Ahead(list, 0, int64(len(list))-1)
		traceAnswers(list)
		if !slices.Equal(whole(list), was) {
			t.Fatalf("%v became %v", was, whole(list))
		}
	}
}

// Promise 21: answers are new memory: writing over one changes neither the argument nor another answer.
func TestTraceAnswersAreNewMemory(t *testing.T) {
	for _, events := range append(traces(), noTraces()...) {
		list := roomyWith(events, send(3, 777))
		was := whole(list)
		first, second := traceAnswers(list), traceAnswers(list)
		for _, answer := range second {
			scribble(answer)
		}
		third := traceAnswers(list)
		if !slices.Equal(whole(list), was) {
			t.Fatalf("an answer shares memory with %v", was)
		}
		for i := range first {
			if !slices.Equal(first[i], third[i]) {
				t.Fatalf("of %v: an answer shares memory with another one", was)
			}
		}
	}
}
