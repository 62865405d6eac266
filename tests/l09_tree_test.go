package tests

import (
	"math"
	"slices"
	"testing"

	"loop.example/g00266/impl"
)

const (
	lastTree  = 1000
	lastRound = 9
)

func call(from, to int64) impl.Call {
	return impl.Call{From: from, To: to}
}

// greatestPower is the greatest power of two that is in k, and its number, found by doubling.
func greatestPower(k int64) (power, round int64) {
	power = 1
	for power*2 <= k {
		power, round = power*2, round+1
	}
	return power, round
}

func parentOf(k int64) int64 {
	power, _ := greatestPower(k)
	return k - power
}

// families has of each node of the greatest tree all whose Parent it is.
func families() [][]int64 {
	out := make([][]int64, lastTree)
	for k := int64(1); k < lastTree; k++ {
		parent := parentOf(k)
		out[parent] = append(out[parent], k)
	}
	return out
}

// callsOf asks each node below n, whatever its number, whether it is called in this round.
func callsOf(n, round int64) []impl.Call {
	var out []impl.Call
	for k := int64(1); k < n; k++ {
		if _, r := greatestPower(k); r == round {
			out = append(out, call(parentOf(k), k))
		}
	}
	return out
}

// outOfTree are numbers that no tree and no node has.
func outOfTree() []int64 {
	return append(ends(), lastTree+1, lastTree+2, 1024, 1<<31, 1<<32, 1<<32+5, 1<<62, math.MinInt64+5, math.MaxInt64-5)
}

func TestRoundsAreTheLeast(t *testing.T) {
	for n := int64(1); n <= lastTree; n++ {
		want := int64(0)
		for power := int64(1); power < n; power *= 2 {
			want++
		}
		if got := impl.Rounds(n); got != want {
			t.Fatalf("Rounds(%d) is %d, not %d", n, got, want)
		}
	}
}

// Promise 9: each node but 0 has one that calls it, in one round alone.
func TestParentsCallOnce(t *testing.T) {
	called := make([][]impl.Call, lastTree)
	for round := range int64(lastRound + 1) {
		for _, c := range impl.Calls(lastTree, round) {
			if _, want := greatestPower(c.To); round != want {
				t.Fatalf("%d is called in round %d, not %d", c.To, round, want)
			}
			called[c.To] = append(called[c.To], c)
		}
	}
	if len(called[0]) != 0 {
		t.Fatalf("0 is called: %v", called[0])
	}
	for k := int64(1); k < lastTree; k++ {
		got, want := impl.Parent(k), parentOf(k)
		if got != want || got < 0 || got >= k {
			t.Fatalf("Parent(%d) is %d, not %d", k, got, want)
		}
		if !slices.Equal(called[k], []impl.Call{call(want, k)}) {
			t.Fatalf("%d is called by %v", k, called[k])
		}
	}
}

func TestChildrenAreAllWithThisParent(t *testing.T) {
	family := families()
	for n := int64(1); n <= lastTree; n++ {
		count := 0
		for k := range n {
			got := impl.Children(n, k)
			end, _ := slices.BinarySearch(family[k], n)
			if want := family[k][:end]; !slices.Equal(got, want) {
				t.Fatalf("Children(%d, %d) is %v, not %v", n, k, got, want)
			}
			for i, child := range got {
				if impl.Parent(child) != k || child >= n || i > 0 && child <= got[i-1] {
					t.Fatalf("Children(%d, %d) is %v", n, k, got)
				}
			}
			count += len(got)
		}
		if count != int(n)-1 {
			t.Fatalf("of %d nodes %d are children", n, count)
		}
	}
}

func TestDepthsCountParents(t *testing.T) {
	if got := impl.Depth(0); got != 0 {
		t.Fatalf("Depth(0) is %d", got)
	}
	for k := int64(1); k < lastTree; k++ {
		want := int64(0)
		for up := k; up != 0; up = parentOf(up) {
			want++
		}
		got := impl.Depth(k)
		if got != want || got != impl.Depth(impl.Parent(k))+1 {
			t.Fatalf("Depth(%d) is %d, not %d", k, got, want)
		}
		if got > impl.Rounds(k+1) {
			t.Fatalf("Depth(%d) is %d, more than Rounds of %d", k, got, k+1)
		}
	}
}

func TestCallsOfEachRound(t *testing.T) {
	for n := int64(1); n <= lastTree; n++ {
		for round := range int64(lastRound + 1) {
			if got, want := impl.Calls(n, round), callsOf(n, round); !slices.Equal(got, want) {
				t.Fatalf("Calls(%d, %d) is %v, not %v", n, round, got, want)
			}
		}
	}
}

// told lets those who know call, as the Calls of this round say; each calls one at most, so no more than twice as many know.
func told(t *testing.T, know []bool, calls []impl.Call) []bool {
	t.Helper()
	next := slices.Clone(know)
	busy := make([]bool, len(know))
	for i, c := range calls {
		if i > 0 && c.To <= calls[i-1].To {
			t.Fatalf("%v are not by To", calls)
		}
		if c.To < 0 || c.To >= int64(len(know)) || next[c.To] {
			t.Fatalf("of %d nodes: %v calls one that knows or is none", len(know), c)
		}
		if c.From < 0 || c.From >= int64(len(know)) || !know[c.From] || busy[c.From] {
			t.Fatalf("of %d nodes: %v is by one that does not know, or calls twice in a round", len(know), c)
		}
		next[c.To], busy[c.From] = true, true
	}
	return next
}

// knowJustBelow asks that all below the bound know, and nobody else.
func knowJustBelow(know []bool, bound int64) bool {
	for k, knows := range know {
		if knows != (int64(k) < bound) {
			return false
		}
	}
	return true
}

// Promise 9: at first 0 alone knows; behind the rounds 0 to r it is just those below 2^(r + 1); all of them behind Rounds, and not one round sooner.
func TestAllKnowBehindRounds(t *testing.T) {
	for n := int64(1); n <= lastTree; n++ {
		know := make([]bool, n)
		know[0] = true
		rounds, power := impl.Rounds(n), int64(1)
		for round := range int64(lastRound + 1) {
			if all := !slices.Contains(know, false); all != (round >= rounds) {
				t.Fatalf("of %d nodes, behind %d of %d rounds: all know is %v", n, round, rounds, all)
			}
			know = told(t, know, impl.Calls(n, round))
			power *= 2
			if !knowJustBelow(know, power) {
				t.Fatalf("of %d nodes, behind round %d: not just those below %d know", n, round, power)
			}
		}
		if slices.Contains(know, false) {
			t.Fatalf("of %d nodes not all are told", n)
		}
	}
}

// Promise 9: nobody can be sooner, since even where each who knows calls one that does not, too few know one round ahead of the last.
func TestSoonerNobodyCan(t *testing.T) {
	for n := int64(2); n <= lastTree; n++ {
		know := int64(1)
		for range impl.Rounds(n) - 1 {
			know *= 2
		}
		if know >= n || know*2 < n {
			t.Fatalf("Rounds(%d) is %d", n, impl.Rounds(n))
		}
	}
}

func TestTreeNumbersWrittenOut(t *testing.T) {
	cases := []struct {
		name string
		of   func(int64) int64
		want map[int64]int64
	}{
		{"Rounds", impl.Rounds, map[int64]int64{
			-1: -1, 0: -1, 1: 0, 2: 1, 3: 2, 4: 2, 5: 3, 8: 3, 9: 4, 511: 9, 512: 9, 513: 10, 999: 10, 1000: 10, 1001: -1, 1024: -1,
		}},
		{"Parent", impl.Parent, map[int64]int64{
			-1: -1, 0: -1, 1: 0, 2: 0, 3: 1, 4: 0, 5: 1, 6: 2, 7: 3, 8: 0, 511: 255, 512: 0, 513: 1, 998: 486, 999: 487, 1000: -1, 1001: -1,
		}},
		{"Depth", impl.Depth, map[int64]int64{
			-1: -1, 0: 0, 1: 1, 2: 1, 3: 2, 4: 1, 6: 2, 7: 3, 8: 1, 511: 9, 512: 1, 513: 2, 991: 9, 999: 8, 1000: -1, 1001: -1, 1023: -1,
		}},
	}
	for _, c := range cases {
		for n, want := range c.want {
			if got := c.of(n); got != want {
				t.Errorf("%s(%d) is %d, not %d", c.name, n, got, want)
			}
		}
	}
}

func TestChildrenWrittenOut(t *testing.T) {
	cases := []struct {
		n, k int64
		want []int64
	}{
		{-1, -1, nil}, {-1, 0, nil}, {0, -1, nil}, {0, 0, nil},
		{1, -1, nil}, {1, 0, nil}, {1, 1, nil},
		{2, 0, []int64{1}}, {2, 1, nil}, {2, 2, nil},
		{3, 0, []int64{1, 2}}, {3, 1, nil}, {4, 1, []int64{3}},
		{8, 0, []int64{1, 2, 4}}, {8, 1, []int64{3, 5}}, {8, 2, []int64{6}}, {8, 3, []int64{7}}, {8, 4, nil}, {8, 7, nil},
		{9, 0, []int64{1, 2, 4, 8}}, {9, 8, nil}, {9, 9, nil},
		{1000, -1, nil},
		{1000, 0, []int64{1, 2, 4, 8, 16, 32, 64, 128, 256, 512}},
		{1000, 1, []int64{3, 5, 9, 17, 33, 65, 129, 257, 513}},
		{1000, 255, []int64{511, 767}}, {1000, 256, []int64{768}},
		{1000, 487, []int64{999}}, {999, 487, nil}, {1000, 488, nil}, {1000, 511, nil}, {1000, 512, nil},
		{1000, 999, nil}, {1000, 1000, nil}, {1000, 1001, nil},
		{512, 0, []int64{1, 2, 4, 8, 16, 32, 64, 128, 256}}, {513, 0, []int64{1, 2, 4, 8, 16, 32, 64, 128, 256, 512}},
		{1001, -1, nil}, {1001, 0, nil}, {1001, 1, nil}, {1001, 1000, nil}, {1001, 1001, nil},
	}
	for _, c := range cases {
		if got := impl.Children(c.n, c.k); !slices.Equal(got, c.want) {
			t.Errorf("Children(%d, %d) is %v, not %v", c.n, c.k, got, c.want)
		}
	}
}

func TestCallsWrittenOut(t *testing.T) {
	cases := []struct {
		n, round int64
		want     []impl.Call
	}{
		{-1, 0, nil}, {0, -1, nil}, {0, 0, nil}, {0, 9, nil}, {0, 10, nil},
		{1, -1, nil}, {1, 0, nil}, {1, 9, nil}, {1, 10, nil},
		{2, -1, nil}, {2, 0, []impl.Call{call(0, 1)}}, {2, 1, nil}, {2, 9, nil}, {2, 10, nil},
		{3, 1, []impl.Call{call(0, 2)}}, {4, 1, []impl.Call{call(0, 2), call(1, 3)}}, {4, 2, nil},
		{5, 2, []impl.Call{call(0, 4)}}, {6, 2, []impl.Call{call(0, 4), call(1, 5)}},
		{8, 2, []impl.Call{call(0, 4), call(1, 5), call(2, 6), call(3, 7)}},
		{9, 2, []impl.Call{call(0, 4), call(1, 5), call(2, 6), call(3, 7)}}, {9, 3, []impl.Call{call(0, 8)}},
		{512, 9, nil}, {513, 9, []impl.Call{call(0, 512)}}, {514, 9, []impl.Call{call(0, 512), call(1, 513)}},
		{1000, -1, nil}, {1000, 0, []impl.Call{call(0, 1)}}, {1000, 10, nil},
		{1001, -1, nil}, {1001, 0, nil}, {1001, 9, nil}, {1001, 10, nil},
	}
	for _, c := range cases {
		if got := impl.Calls(c.n, c.round); !slices.Equal(got, c.want) {
			t.Errorf("Calls(%d, %d) is %v, not %v", c.n, c.round, got, c.want)
		}
	}
	last := impl.Calls(1000, 9)
	if len(last) != 488 || last[0] != call(0, 512) || last[487] != call(487, 999) {
		t.Errorf("Calls(1000, 9) are %d: %v", len(last), last)
	}
}

// Promise 21: what is out of range in one place has the fixed answer, whatever stands in the other.
func TestOutOfTheTree(t *testing.T) {
	for _, n := range outOfTree() {
		if impl.Rounds(n) != -1 || impl.Parent(n) != -1 || impl.Depth(n) != -1 {
			t.Errorf("of %d: Rounds %d, Parent %d, Depth %d", n, impl.Rounds(n), impl.Parent(n), impl.Depth(n))
		}
		for _, other := range append(outOfTree(), 0, 1, 2, 5, 9, 10, 512, 999, lastTree) {
			for _, pair := range [][]int64{{n, other}, {other, n}} {
				if got := impl.Children(pair[0], pair[1]); len(got) != 0 {
					t.Errorf("Children(%d, %d) is %v", pair[0], pair[1], got)
				}
				if got := impl.Calls(pair[0], pair[1]); len(got) != 0 {
					t.Errorf("Calls(%d, %d) is %v", pair[0], pair[1], got)
				}
			}
		}
	}
}

// Promise 21: a node is out of range from n on, though a greater tree has it; a round from 10 on, though a shift by it could be made.
func TestNodesAndRoundsPastTheEnd(t *testing.T) {
	for n := int64(1); n <= lastTree; n++ {
		for _, k := range []int64{-2, -1, n, n + 1, n + 2, 2 * n, lastTree, n + 1<<32} {
			if got := impl.Children(n, k); len(got) != 0 {
				t.Fatalf("Children(%d, %d) is %v", n, k, got)
			}
		}
		for _, round := range []int64{-64, -1, 10, 11, 31, 32, 62, 63, 64, 65, 128, 1 << 32} {
			if got := impl.Calls(n, round); len(got) != 0 {
				t.Fatalf("Calls(%d, %d) is %v", n, round, got)
			}
		}
	}
}

// Promise 21: writing over an answer, and the room behind it, changes no other answer.
func TestTreeAnswersAreNewMemory(t *testing.T) {
	for _, n := range []int64{0, 1, 2, 8, 513, lastTree, lastTree + 1} {
		for k := range n + 1 {
			earlier := impl.Children(n, k)
			want := slices.Clone(earlier)
			scribble(impl.Children(n, k))
			if !slices.Equal(earlier, want) || !slices.Equal(impl.Children(n, k), want) {
				t.Fatalf("Children(%d, %d) shares memory with another answer", n, k)
			}
		}
		for round := range int64(lastRound + 2) {
			earlier := impl.Calls(n, round)
			want := slices.Clone(earlier)
			other := impl.Calls(n, round)
			other = other[:cap(other)]
			for i := range other {
				other[i] = call(-99, -99)
			}
			if !slices.Equal(earlier, want) || !slices.Equal(impl.Calls(n, round), want) {
				t.Fatalf("Calls(%d, %d) shares memory with another answer", n, round)
			}
		}
	}
}
