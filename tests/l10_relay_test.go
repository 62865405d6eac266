package tests

import (
	"math"
	"math/rand"
	"slices"
	"testing"

	"loop.example/g00266/impl"
)

const lastRelay = 12

func pass(from, to, block int64) impl.Pass {
	return impl.Pass{From: from, To: to, Block: block}
}

func relayWith(nodes, blocks int64, have ...[]int64) impl.Relay {
	return impl.Relay{Nodes: nodes, Blocks: blocks, Have: have}
}

func alikeRelays(a, b impl.Relay) bool {
	return a.Nodes == b.Nodes && a.Blocks == b.Blocks && alikeLists(a.Have, b.Have)
}

func copiedRelay(r impl.Relay) impl.Relay {
	return relayWith(r.Nodes, r.Blocks, copied(r.Have)...)
}

// firstNumbers are 0, 1, 2 and so on, this many.
func firstNumbers(count int64) []int64 {
	out := []int64{}
	for n := range count {
		out = append(out, n)
	}
	return out
}

// freshRelay is what NewRelay should give where it gives true.
func freshRelay(nodes, blocks int64) impl.Relay {
	have := make([][]int64, nodes)
	have[0] = firstNumbers(blocks)
	return relayWith(nodes, blocks, have...)
}

// isRelay is what the document asks of a Relay, word by word.
func isRelay(r impl.Relay) bool {
	if r.Nodes < 1 || r.Nodes > lastRelay || r.Blocks < 1 || r.Blocks > lastRelay || int64(len(r.Have)) != r.Nodes {
		return false
	}
	for _, list := range r.Have {
		for i, block := range list {
			if block < 0 || block >= r.Blocks || i > 0 && list[i-1] >= block {
				return false
			}
		}
	}
	return slices.Equal(r.Have[0], firstNumbers(r.Blocks))
}

func isFullRelay(r impl.Relay) bool {
	if !isRelay(r) {
		return false
	}
	for _, list := range r.Have {
		for block := range r.Blocks {
			if !slices.Contains(list, block) {
				return false
			}
		}
	}
	return true
}

func chained(r impl.Relay) []impl.Pass {
	var out []impl.Pass
	if !isRelay(r) {
		return out
	}
	for k := range len(r.Have) - 1 {
		for _, block := range r.Have[k] {
			if !slices.Contains(r.Have[k+1], block) {
				out = append(out, pass(int64(k), int64(k)+1, block))
				break
			}
		}
	}
	return out
}

func isNodeOf(r impl.Relay, node int64) bool {
	return node >= 0 && node < r.Nodes
}

func mayBeTaken(r impl.Relay, calls []impl.Pass) bool {
	if !isRelay(r) {
		return false
	}
	for i, p := range calls {
		if !isNodeOf(r, p.From) || !isNodeOf(r, p.To) || !slices.Contains(r.Have[p.From], p.Block) {
			return false
		}
		for _, other := range calls[:i] {
			if other.From == p.From || other.To == p.To {
				return false
			}
		}
	}
	return true
}

func turned(r impl.Relay, calls []impl.Pass) (impl.Relay, bool) {
	if !mayBeTaken(r, calls) {
		return impl.Relay{}, false
	}
	out := copiedRelay(r)
	for _, p := range calls {
		if !slices.Contains(out.Have[p.To], p.Block) {
			out.Have[p.To] = append(out.Have[p.To], p.Block)
			slices.Sort(out.Have[p.To])
		}
	}
	return out, true
}

func checkTurn(t *testing.T, r impl.Relay, calls []impl.Pass) impl.Relay {
	t.Helper()
	got, is := impl.Turn(r, calls)
	want, wantIs := turned(r, calls)
	if is != wantIs || !alikeRelays(got, want) {
		t.Fatalf("Turn(%v, %v) is %v and %v, not %v and %v", r, calls, got, is, want, wantIs)
	}
	if is && !impl.RelayOk(got) {
		t.Fatalf("Turn(%v, %v) is %v, which is not RelayOk", r, calls, got)
	}
	return got
}

func checkRelay(t *testing.T, r impl.Relay) {
	t.Helper()
	if ok := isRelay(r); impl.RelayOk(r) != ok {
		t.Fatalf("RelayOk(%v) is %v", r, !ok)
	}
	if full := isFullRelay(r); impl.Full(r) != full {
		t.Fatalf("Full(%v) is %v", r, !full)
	}
	want := chained(r)
	if got := impl.Chain(r); !slices.Equal(got, want) {
		t.Fatalf("Chain(%v) is %v, not %v", r, got, want)
	}
	checkTurn(t, r, want)
	checkTurn(t, r, nil)
}

// partsOf are all rising lists of numbers below the count.
func partsOf(count int64) [][]int64 {
	out := [][]int64{{}}
	for n := range count {
		for _, part := range out {
			out = append(out, append(slices.Clone(part), n))
		}
	}
	return out
}

// allRelays are all right ones of so many nodes and Blocks.
func allRelays(nodes, blocks int64) []impl.Relay {
	var out []impl.Relay
	for _, have := range allLists(int(nodes)-1, partsOf(blocks)...) {
		out = append(out, relayWith(nodes, blocks, append([][]int64{firstNumbers(blocks)}, copied(have)...)...))
	}
	return out
}

func smallRelays() []impl.Relay {
	var out []impl.Relay
	for nodes := int64(1); nodes <= 3; nodes++ {
		for blocks := int64(1); blocks <= 3; blocks++ {
			out = append(out, allRelays(nodes, blocks)...)
		}
	}
	return append(out, allRelays(4, 2)...)
}

func drawnRelay(lot *rand.Rand) impl.Relay {
	r := freshRelay(1+lot.Int63n(lastRelay), 1+lot.Int63n(lastRelay))
	many := lot.Intn(11)
	for k := 1; k < len(r.Have); k++ {
		for block := range r.Blocks {
			if lot.Intn(10) < many {
				r.Have[k] = append(r.Have[k], block)
			}
		}
	}
	return r
}

// drawnPasses are mostly right ones: each From with one of its Blocks, and now and then something that is not as told.
func drawnPasses(lot *rand.Rand, r impl.Relay) []impl.Pass {
	var out []impl.Pass
	from, to := lot.Perm(len(r.Have)), lot.Perm(len(r.Have))
	for i := range from {
		list := r.Have[from[i]]
		if len(list) > 0 && lot.Intn(4) > 0 {
			out = append(out, pass(int64(from[i]), int64(to[i]), list[lot.Intn(len(list))]))
		}
	}
	if len(out) > 0 && lot.Intn(3) == 0 {
		i := lot.Intn(len(out))
		switch lot.Intn(3) {
		case 0:
			out[i].From = lot.Int63n(r.Nodes+2) - 1
		case 1:
			out[i].To = lot.Int63n(r.Nodes+2) - 1
		case 2:
			out[i].Block = lot.Int63n(r.Blocks+2) - 1
		}
	}
	return out
}

func checkNobodyLoses(t *testing.T, before, after impl.Relay) {
	t.Helper()
	for k, list := range before.Have {
		for _, block := range list {
			if !slices.Contains(after.Have[k], block) {
				t.Fatalf("%v became %v: node %d has lost %d", before, after, k, block)
			}
		}
	}
}

// chainTurn takes a Turn with the Chain of the Relay, which is always taken.
func chainTurn(t *testing.T, r impl.Relay) impl.Relay {
	t.Helper()
	next, is := impl.Turn(r, impl.Chain(r))
	if !is || !impl.RelayOk(next) {
		t.Fatalf("Turn of the Chain of %v is %v and %v", r, next, is)
	}
	checkNobodyLoses(t, r, next)
	return next
}

func TestNewRelays(t *testing.T) {
	for nodes := int64(-1); nodes <= lastRelay+2; nodes++ {
		for blocks := int64(-1); blocks <= lastRelay+2; blocks++ {
			want := impl.Relay{}
			ok := nodes >= 1 && nodes <= lastRelay && blocks >= 1 && blocks <= lastRelay
			if ok {
				want = freshRelay(nodes, blocks)
			}
			got, is := impl.NewRelay(nodes, blocks)
			if is != ok || !alikeRelays(got, want) {
				t.Fatalf("NewRelay(%d, %d) is %v and %v", nodes, blocks, got, is)
			}
			if impl.RelayOk(got) != ok || impl.Full(got) != (ok && nodes == 1) {
				t.Fatalf("of %d nodes and %d Blocks: RelayOk %v, Full %v", nodes, blocks, impl.RelayOk(got), impl.Full(got))
			}
		}
	}
}

// Promise 10: a Block goes on by one node a turn, and the next one comes a turn behind it; so all have all just behind Blocks + Nodes - 2 turns.
func TestByChainAllHaveAll(t *testing.T) {
	for nodes := int64(1); nodes <= lastRelay; nodes++ {
		for blocks := int64(1); blocks <= lastRelay; blocks++ {
			r, _ := impl.NewRelay(nodes, blocks)
			last := blocks + nodes - 2
			for turn := range last + 3 {
				if full := turn >= last || nodes == 1; impl.Full(r) != full || (len(impl.Chain(r)) == 0) != full {
					t.Fatalf("%d nodes, %d Blocks, behind %d turns: %v, Full is %v, Chain %v", nodes, blocks, turn, r, impl.Full(r), impl.Chain(r))
				}
				for k := int64(1); k < nodes; k++ {
					if want := firstNumbers(max(0, min(blocks, turn-k+1))); !slices.Equal(r.Have[k], want) {
						t.Fatalf("%d nodes, %d Blocks, behind %d turns: node %d has %v, not %v", nodes, blocks, turn, k, r.Have[k], want)
					}
				}
				r = chainTurn(t, r)
			}
		}
	}
}

// Promise 10: nor does it take more turns where some have some already, in whatever order these came.
func TestByChainAllHaveAllFromWhateverTheyHave(t *testing.T) {
	lot := rand.New(rand.NewSource(10))
	list := smallRelays()
	for range 2000 {
		list = append(list, drawnRelay(lot))
	}
	for _, begun := range list {
		r := begun
		for range begun.Blocks + begun.Nodes - 2 {
			r = chainTurn(t, r)
		}
		if !impl.Full(r) || len(impl.Chain(r)) != 0 {
			t.Fatalf("%v became %v", begun, r)
		}
	}
}

func TestSmallRelays(t *testing.T) {
	for _, r := range smallRelays() {
		checkRelay(t, r)
	}
}

func TestDrawnRelays(t *testing.T) {
	lot := rand.New(rand.NewSource(101))
	taken, refused := 0, 0
	for range 3000 {
		r := drawnRelay(lot)
		for range 10 {
			checkRelay(t, r)
			calls := drawnPasses(lot, r)
			next := checkTurn(t, r, calls)
			if !isRelay(next) {
				refused++
				continue
			}
			taken++
			checkNobodyLoses(t, r, next)
			r = next
		}
	}
	if taken < 1000 || refused < 1000 {
		t.Fatalf("%d were taken and %d refused", taken, refused)
	}
}

// Chain's Passes are by From, each from k to k + 1, with the first Block that k has and k + 1 has not.
func TestChainsWrittenOut(t *testing.T) {
	cases := []struct {
		r    impl.Relay
		want []impl.Pass
	}{
		{relayWith(1, 1, firstNumbers(1)), nil},
		{relayWith(1, 12, firstNumbers(12)), nil},
		{relayWith(2, 1, firstNumbers(1), nil), []impl.Pass{pass(0, 1, 0)}},
		{relayWith(2, 1, firstNumbers(1), firstNumbers(1)), nil},
		{relayWith(2, 3, firstNumbers(3), []int64{0, 2}), []impl.Pass{pass(0, 1, 1)}},
		{relayWith(2, 3, firstNumbers(3), []int64{1, 2}), []impl.Pass{pass(0, 1, 0)}},
		{relayWith(2, 3, firstNumbers(3), []int64{0, 1}), []impl.Pass{pass(0, 1, 2)}},
		{relayWith(3, 3, firstNumbers(3), nil, nil), []impl.Pass{pass(0, 1, 0)}},
		{relayWith(3, 3, firstNumbers(3), nil, firstNumbers(3)), []impl.Pass{pass(0, 1, 0)}},
		{relayWith(3, 3, firstNumbers(3), firstNumbers(3), nil), []impl.Pass{pass(1, 2, 0)}},
		{relayWith(3, 3, firstNumbers(3), []int64{2}, []int64{0, 1}), []impl.Pass{pass(0, 1, 0), pass(1, 2, 2)}},
		{relayWith(3, 3, firstNumbers(3), []int64{1}, []int64{0, 1}), []impl.Pass{pass(0, 1, 0)}},
		{relayWith(4, 4, firstNumbers(4), []int64{0, 3}, []int64{0, 1}, []int64{2}), []impl.Pass{pass(0, 1, 1), pass(1, 2, 3), pass(2, 3, 0)}},
		{relayWith(3, 2, firstNumbers(2), firstNumbers(2), firstNumbers(2)), nil},
	}
	for _, c := range cases {
		if got := impl.Chain(c.r); !impl.RelayOk(c.r) || !slices.Equal(got, c.want) {
			t.Errorf("Chain(%v) is %v, not %v", c.r, got, c.want)
		}
	}
	r := freshRelay(12, 12)
	var want []impl.Pass
	for k := range int64(11) {
		r.Have[k+1] = firstNumbers(11 - k)
		want = append(want, pass(k, k+1, 11-k))
	}
	if got := impl.Chain(r); !slices.Equal(got, want) {
		t.Errorf("Chain(%v) is %v, not %v", r, got, want)
	}
}

func TestTurnsWrittenOut(t *testing.T) {
	r := relayWith(4, 3, firstNumbers(3), []int64{1}, []int64{0, 2}, nil)
	cases := []struct {
		name  string
		calls []impl.Pass
		have  [][]int64
	}{
		{"no Pass", []impl.Pass{}, r.Have},
		{"one", []impl.Pass{pass(0, 3, 2)}, [][]int64{{0, 1, 2}, {1}, {0, 2}, {2}}},
		{"between two that it has", []impl.Pass{pass(1, 2, 1)}, [][]int64{{0, 1, 2}, {1}, {0, 1, 2}, {}}},
		{"ahead of what it has", []impl.Pass{pass(2, 1, 0)}, [][]int64{{0, 1, 2}, {0, 1}, {0, 2}, {}}},
		{"behind what it has", []impl.Pass{pass(2, 1, 2)}, [][]int64{{0, 1, 2}, {1, 2}, {0, 2}, {}}},
		{"what it has already", []impl.Pass{pass(0, 1, 1)}, r.Have},
		{"to number 0", []impl.Pass{pass(2, 0, 2)}, r.Have},
		{"to itself", []impl.Pass{pass(2, 2, 2)}, r.Have},
		{"to each other", []impl.Pass{pass(1, 2, 1), pass(2, 1, 0)}, [][]int64{{0, 1, 2}, {0, 1}, {0, 1, 2}, {}}},
		{"one Block to two", []impl.Pass{pass(0, 3, 0), pass(2, 1, 0)}, [][]int64{{0, 1, 2}, {0, 1}, {0, 2}, {0}}},
		{"not by From", []impl.Pass{pass(2, 3, 2), pass(0, 1, 0), pass(1, 2, 1)}, [][]int64{{0, 1, 2}, {0, 1}, {0, 1, 2}, {2}}},
		{"a To that is a From with what it had", []impl.Pass{pass(0, 1, 2), pass(1, 3, 1)}, [][]int64{{0, 1, 2}, {1, 2}, {0, 2}, {1}}},
		{"a To that is a From with what it gets", []impl.Pass{pass(0, 1, 2), pass(1, 3, 2)}, nil},
		{"the From ahead of the To", []impl.Pass{pass(1, 3, 2), pass(0, 1, 2)}, nil},
		{"a From without its Block", []impl.Pass{pass(2, 3, 1)}, nil},
		{"a From without any", []impl.Pass{pass(3, 1, 0)}, nil},
		{"to itself what it has not", []impl.Pass{pass(3, 3, 0)}, nil},
		{"what its To has and its From has not", []impl.Pass{pass(1, 2, 0)}, nil},
		{"a From twice", []impl.Pass{pass(0, 1, 0), pass(0, 3, 0)}, nil},
		{"a From twice with two Blocks", []impl.Pass{pass(0, 1, 0), pass(0, 3, 1)}, nil},
		{"a To twice", []impl.Pass{pass(0, 3, 0), pass(2, 3, 2)}, nil},
		{"a To twice with one Block", []impl.Pass{pass(0, 3, 0), pass(2, 3, 0)}, nil},
		{"a To twice that has both", []impl.Pass{pass(1, 0, 1), pass(2, 0, 0)}, nil},
		{"one Pass twice", []impl.Pass{pass(0, 3, 0), pass(0, 3, 0)}, nil},
		{"twice, far apart", []impl.Pass{pass(0, 3, 0), pass(1, 2, 1), pass(0, 1, 2)}, nil},
		{"the last one wrong", []impl.Pass{pass(0, 3, 0), pass(1, 2, 1), pass(2, 4, 0)}, nil},
		{"the first one wrong", []impl.Pass{pass(3, 3, 0), pass(0, 2, 1)}, nil},
		{"a From below 0", []impl.Pass{pass(-1, 3, 0)}, nil},
		{"a From past the end", []impl.Pass{pass(4, 3, 0)}, nil},
		{"a To below 0", []impl.Pass{pass(0, -1, 0)}, nil},
		{"a To past the end", []impl.Pass{pass(0, 4, 0)}, nil},
		{"a Block below 0", []impl.Pass{pass(0, 3, -1)}, nil},
		{"a Block past the end", []impl.Pass{pass(0, 3, 3)}, nil},
	}
	for _, c := range cases {
		want := impl.Relay{}
		if c.have != nil {
			want = relayWith(4, 3, c.have...)
		}
		if got, is := impl.Turn(r, c.calls); is != (c.have != nil) || !alikeRelays(got, want) {
			t.Errorf("%s: Turn(%v, %v) is %v and %v", c.name, r, c.calls, got, is)
		}
	}
}

// Turn of two Passes, whatever numbers they have.
func TestTurnsOfTwoPasses(t *testing.T) {
	var passes []impl.Pass
	for from := int64(-1); from <= 3; from++ {
		for to := int64(-1); to <= 3; to++ {
			for block := int64(-1); block <= 2; block++ {
				passes = append(passes, pass(from, to, block))
			}
		}
	}
	for _, r := range allRelays(3, 2) {
		for length := range 3 {
			for _, calls := range allLists(length, passes...) {
				checkTurn(t, r, calls)
			}
		}
	}
}

func TestTurnsOfThreePasses(t *testing.T) {
	var passes []impl.Pass
	for from := range int64(3) {
		for to := range int64(3) {
			for block := range int64(2) {
				passes = append(passes, pass(from, to, block))
			}
		}
	}
	for _, r := range allRelays(3, 2) {
		for _, calls := range allLists(3, passes...) {
			checkTurn(t, r, calls)
		}
	}
}

// All at once: in whatever order the Passes stand, it comes to the same.
func TestPassesInWhateverOrder(t *testing.T) {
	lot := rand.New(rand.NewSource(102))
	for range 3000 {
		r := drawnRelay(lot)
		calls := drawnPasses(lot, r)
		want, wantIs := impl.Turn(r, calls)
		for range 5 {
			lot.Shuffle(len(calls), func(i, k int) { calls[i], calls[k] = calls[k], calls[i] })
			if got, is := impl.Turn(r, calls); is != wantIs || !alikeRelays(got, want) {
				t.Fatalf("Turn(%v, %v) is %v and %v, not %v and %v", r, calls, got, is, want, wantIs)
			}
		}
	}
}

// All at once: what came in a Turn goes on in the next one, and no sooner, though a line of Passes would carry it on.
func TestNoBlockGoesTwiceInATurn(t *testing.T) {
	for nodes := int64(3); nodes <= lastRelay; nodes++ {
		r := freshRelay(nodes, 2)
		line := []impl.Pass{pass(0, 1, 0)}
		for k := int64(1); k < nodes-1; k++ {
			longer := append(slices.Clone(line), pass(k, k+1, 0))
			for range 2 {
				if got, is := impl.Turn(r, longer); is || !alikeRelays(got, impl.Relay{}) {
					t.Fatalf("Turn(%v, %v) is %v and %v", r, longer, got, is)
				}
				slices.Reverse(longer)
			}
			r = checkTurn(t, r, line)
			line = longer
		}
		if r = checkTurn(t, r, line); !slices.Equal(r.Have[nodes-1], []int64{0}) {
			t.Fatalf("%v came to %v", line, r)
		}
	}
}

// Each node gives and gets in one Turn, which is as many Passes as there can be.
func TestTurnsOfAllNodes(t *testing.T) {
	for nodes := int64(1); nodes <= lastRelay; nodes++ {
		r := freshRelay(nodes, lastRelay)
		for k := int64(1); k < nodes; k++ {
			r.Have[k] = []int64{k}
		}
		var ring []impl.Pass
		for k := range nodes {
			ring = append(ring, pass(k, (k+1)%nodes, k))
		}
		got := checkTurn(t, r, ring)
		for k := int64(1); k < nodes; k++ {
			if !slices.Equal(got.Have[k], []int64{k - 1, k}) {
				t.Fatalf("Turn(%v, %v) is %v", r, ring, got)
			}
		}
		for k := range nodes {
			if got, is := impl.Turn(r, append(slices.Clone(ring), pass(k, k, k))); is || !alikeRelays(got, impl.Relay{}) {
				t.Fatalf("%d Passes of %d nodes are taken", nodes+1, nodes)
			}
		}
	}
}

func checkNoRelay(t *testing.T, r impl.Relay) {
	t.Helper()
	if isRelay(r) {
		t.Fatalf("%v is a right one", r)
	}
	if impl.RelayOk(r) || impl.Full(r) {
		t.Fatalf("%v: RelayOk %v, Full %v", r, impl.RelayOk(r), impl.Full(r))
	}
	if got := impl.Chain(r); len(got) != 0 {
		t.Fatalf("Chain(%v) is %v", r, got)
	}
	for _, calls := range [][]impl.Pass{nil, {pass(0, 0, 0)}, {pass(0, 1, 0)}, {pass(0, r.Nodes-1, r.Blocks-1)}, {pass(-1, 13, 12)}} {
		if got, is := impl.Turn(r, calls); is || !alikeRelays(got, impl.Relay{}) {
			t.Fatalf("Turn(%v, %v) is %v and %v", r, calls, got, is)
		}
	}
}

// wrongCounts have Nodes or Blocks out of range, also with just the lists that would go with them.
func wrongCounts() []impl.Relay {
	out := []impl.Relay{
		{},
		relayWith(0, 0), relayWith(0, 1), relayWith(1, 0, nil), relayWith(0, 1, firstNumbers(1)), relayWith(1, 0, firstNumbers(1)),
		relayWith(2, 0, nil, nil), relayWith(-1, 1, firstNumbers(1)), relayWith(1, -1, nil), relayWith(1, -1, firstNumbers(1)),
		freshRelay(13, 1), freshRelay(1, 13), freshRelay(13, 12), freshRelay(12, 13), freshRelay(13, 13), freshRelay(100, 100),
	}
	for _, n := range append(ends(), 13, 14, 1<<32+3, -1<<32+3) {
		out = append(out, relayWith(n, 3, freshRelay(3, 3).Have...), relayWith(3, n, freshRelay(3, 3).Have...), relayWith(n, n, freshRelay(3, 3).Have...))
	}
	return out
}

// wrongHaves are those whose Nodes and Blocks are in range, and whose Have is not as told.
func wrongHaves() []impl.Relay {
	var out []impl.Relay
	for _, counts := range [][]int64{{1, 1}, {1, 12}, {2, 1}, {3, 4}, {12, 1}, {12, 12}} {
		nodes, blocks := counts[0], counts[1]
		out = append(out, relayWith(nodes, blocks), relayWith(nodes, blocks, freshRelay(nodes+1, blocks).Have...))
		out = append(out, relayWith(nodes, blocks, freshRelay(nodes, blocks).Have[:nodes-1]...))
		for missing := range blocks {
			r := freshRelay(nodes, blocks)
			r.Have[0] = slices.Delete(r.Have[0], int(missing), int(missing)+1)
			out = append(out, r)
		}
		for place := range nodes {
			for _, list := range wrongLists(blocks) {
				r := freshRelay(nodes, blocks)
				r.Have[place] = list
				out = append(out, r)
			}
		}
	}
	return out
}

// wrongLists do not rise, or have a number that is none of these Blocks.
func wrongLists(blocks int64) [][]int64 {
	last := blocks - 1
	out := [][]int64{{0, 0}, {last, last}, {0, last, last}, {-1, 0}, {last, blocks}, {last, 0, last}, repeated(0, int(blocks)+1), firstNumbers(blocks + 1)}
	if blocks > 1 {
		down := firstNumbers(blocks)
		slices.Reverse(down)
		swapped := firstNumbers(blocks)
		swapped[last], swapped[last-1] = swapped[last-1], swapped[last]
		out = append(out, down, swapped, []int64{1, 0}, []int64{last, 0}, repeated(0, int(blocks)))
	}
	for _, n := range append(ends(), blocks, blocks+1, 13) {
		out = append(out, []int64{n})
		for place := range blocks {
			list := firstNumbers(blocks)
			list[place] = n
			out = append(out, list, slices.Insert(firstNumbers(blocks), int(place), n))
		}
	}
	return out
}

func wrongRelays() []impl.Relay {
	return append(wrongCounts(), wrongHaves()...)
}

// Promise 21: what is not RelayOk has the fixed answers.
func TestWrongRelays(t *testing.T) {
	for _, r := range wrongRelays() {
		checkNoRelay(t, r)
	}
}

func TestRelaysAtTheLimits(t *testing.T) {
	for _, nodes := range []int64{1, 2, 11, 12} {
		for _, blocks := range []int64{1, 2, 11, 12} {
			full := freshRelay(nodes, blocks)
			for k := range full.Have {
				full.Have[k] = firstNumbers(blocks)
			}
			checkRelay(t, full)
			if !impl.RelayOk(full) || !impl.Full(full) {
				t.Fatalf("%v: RelayOk %v, Full %v", full, impl.RelayOk(full), impl.Full(full))
			}
			for k := int64(1); k < nodes; k++ {
				for missing := range blocks {
					r := copiedRelay(full)
					r.Have[k] = slices.Delete(r.Have[k], int(missing), int(missing)+1)
					checkRelay(t, r)
					if !impl.RelayOk(r) || impl.Full(r) {
						t.Fatalf("%v: RelayOk %v, Full %v", r, impl.RelayOk(r), impl.Full(r))
					}
				}
			}
		}
	}
}

// Promise 21: a list that is far too long is refused as any other one.
func TestRelaysFarTooLong(t *testing.T) {
	long := make([][]int64, 100000)
	for i := range long {
		long[i] = firstNumbers(1)
	}
	checkNoRelay(t, relayWith(12, 1, long...))
	checkNoRelay(t, relayWith(int64(len(long)), 1, long...))
	checkNoRelay(t, relayWith(1, 12, firstNumbers(100000)))
	checkNoRelay(t, relayWith(2, 12, firstNumbers(12), firstNumbers(100000)))
	if got, is := impl.Turn(freshRelay(12, 12), slices.Repeat([]impl.Pass{pass(0, 1, 0)}, 100000)); is || !alikeRelays(got, impl.Relay{}) {
		t.Fatalf("100000 Passes are taken: %v", got)
	}
}

// Promise 21: the greatest and the least numbers in each place.
func TestRelayNumbersAtTheEnds(t *testing.T) {
	far := []int64{math.MinInt64, math.MinInt64 + 1, -1, 12, 13, 1 << 32, math.MaxInt64 - 1, math.MaxInt64}
	for _, n := range append(far, 0, 1, 3) {
		for _, m := range append(far, 0) {
			if m == 12 {
				continue
			}
			for _, counts := range [][]int64{{n, m}, {m, n}} {
				if got, is := impl.NewRelay(counts[0], counts[1]); is || !alikeRelays(got, impl.Relay{}) {
					t.Fatalf("NewRelay(%d, %d) is %v and %v", counts[0], counts[1], got, is)
				}
				checkNoRelay(t, relayWith(counts[0], counts[1], freshRelay(3, 3).Have...))
			}
		}
	}
	for _, r := range []impl.Relay{freshRelay(1, 1), freshRelay(3, 3), freshRelay(12, 12)} {
		for _, list := range allLists(3, append(far, 0, 1)...) {
			p := pass(list[0], list[1], list[2])
			checkTurn(t, r, []impl.Pass{p})
			checkTurn(t, r, []impl.Pass{pass(0, 0, 0), p})
			checkTurn(t, r, []impl.Pass{p, pass(0, 0, 0)})
		}
	}
}

func relayCases() []impl.Relay {
	lot := rand.New(rand.NewSource(103))
	out := []impl.Relay{freshRelay(1, 1), freshRelay(1, 12), freshRelay(12, 1), freshRelay(12, 12), freshRelay(3, 2)}
	for range 60 {
		out = append(out, drawnRelay(lot))
	}
	return append(out, wrongRelays()...)
}

// passCases are Passes that are taken, that change nothing, and that are refused.
func passCases(r impl.Relay) [][]impl.Pass {
	return [][]impl.Pass{nil, chained(r), {pass(0, 0, 0)}, {pass(0, r.Nodes-1, r.Blocks-1)}, {pass(0, 1, 0), pass(0, 2, 0)}, {pass(1, -1, 0)}}
}

func relayAnswers(r impl.Relay) []impl.Relay {
	fresh, _ := impl.NewRelay(r.Nodes, r.Blocks)
	out := []impl.Relay{fresh}
	for _, calls := range passCases(r) {
		next, _ := impl.Turn(r, calls)
		out = append(out, next)
	}
	return out
}

func copiedRelays(list []impl.Relay) []impl.Relay {
	var out []impl.Relay
	for _, r := range list {
		out = append(out, copiedRelay(r))
	}
	return out
}

// roomyRelay has marked room behind each list, and behind the list of these.
func roomyRelay(r impl.Relay) impl.Relay {
	have := make([][]int64, 0, len(r.Have))
	for _, list := range r.Have {
		have = append(have, roomy(list))
	}
	return relayWith(r.Nodes, r.Blocks, roomyWith(have, roomy([]int64{5, 6}))...)
}

// wholeHave is all that lies in a Have and in the room behind each list of it.
func wholeHave(have [][]int64) [][]int64 {
	var out [][]int64
	for _, list := range have[:cap(have)] {
		out = append(out, whole(list))
	}
	return out
}

func scribblePasses(list []impl.Pass) {
	list = list[:cap(list)]
	for i := range list {
		list[i] = pass(-99, -99, -99)
	}
}

// Promise 21: arguments stay, and so does the spare room behind them.
func TestRelayArgumentsStay(t *testing.T) {
	for _, r := range relayCases() {
		r = roomyRelay(r)
		was := wholeHave(r.Have)
		impl.RelayOk(r)
		impl.Full(r)
		impl.Chain(r)
		for _, calls := range passCases(r) {
			calls = roomyWith(calls, pass(spareMark, spareMark, spareMark))
			wasCalls := whole(calls)
			impl.Turn(r, calls)
			if !slices.Equal(whole(calls), wasCalls) {
				t.Fatalf("%v became %v", wasCalls, whole(calls))
			}
		}
		if !alikeLists(wholeHave(r.Have), was) {
			t.Fatalf("%v became %v", was, wholeHave(r.Have))
		}
	}
}

// Promise 21: what lies in the spare room behind the lists is nobody's.
func TestRelaysEndWhereTheyEnd(t *testing.T) {
	for _, r := range relayCases() {
		for _, mark := range []int64{spareMark, 0, r.Blocks - 1, math.MaxInt64} {
			roomier := copiedRelay(r)
			for k, list := range roomier.Have {
				roomier.Have[k] = roomyWith(list, mark)
			}
			roomier.Have = roomyWith(roomier.Have, firstNumbers(2))
			checkRelay(t, roomier)
		}
	}
}

// Promise 21: writing over a list of an answer, and the room behind it, changes no other list of it, no argument and no other answer.
func TestRelayAnswersAreNewMemory(t *testing.T) {
	for _, r := range relayCases() {
		r = roomyRelay(r)
		was := wholeHave(r.Have)
		earlier := relayAnswers(r)
		want := copiedRelays(earlier)
		for i, answer := range relayAnswers(r) {
			for k := range answer.Have {
				scribble(answer.Have[k])
				if !alikeLists(answer.Have[k+1:], want[i].Have[k+1:]) {
					t.Fatalf("of %v: two lists of answer %d share memory", r, i)
				}
			}
			have := answer.Have[:cap(answer.Have)]
			for k := range have {
				have[k] = []int64{-99}
			}
			if !alikeLists(wholeHave(r.Have), was) {
				t.Fatalf("answer %d shares memory with %v", i, r)
			}
			if !slices.EqualFunc(earlier, want, alikeRelays) || !slices.EqualFunc(relayAnswers(r), want, alikeRelays) {
				t.Fatalf("of %v: answer %d shares memory with another one", r, i)
			}
		}
	}
}

func TestChainsAreNewMemory(t *testing.T) {
	for _, r := range relayCases() {
		earlier := impl.Chain(r)
		want := slices.Clone(earlier)
		scribblePasses(impl.Chain(r))
		if !slices.Equal(earlier, want) || !slices.Equal(impl.Chain(r), want) {
			t.Fatalf("Chain(%v) shares memory with another answer", r)
		}
	}
}

// Promise 21: nor does writing over Passes, or over a Relay, change those that came of it.
func TestRelaysOneBehindTheOtherAreNewMemory(t *testing.T) {
	lot := rand.New(rand.NewSource(104))
	for range 200 {
		line := []impl.Relay{drawnRelay(lot)}
		for range 12 {
			calls := impl.Chain(line[len(line)-1])
			next, _ := impl.Turn(line[len(line)-1], calls)
			was := copiedRelay(next)
			scribblePasses(calls)
			if !alikeRelays(next, was) {
				t.Fatalf("%v shares memory with its Passes", was)
			}
			line = append(line, next)
		}
		want := copiedRelays(line)
		for i := range line {
			for _, list := range line[i].Have {
				scribble(list)
			}
			if !slices.EqualFunc(line[i+1:], want[i+1:], alikeRelays) {
				t.Fatalf("%v shares memory with one behind it", want[i])
			}
		}
	}
}
