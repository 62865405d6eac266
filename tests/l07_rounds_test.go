package tests

import (
	"math"
	"math/rand"
	"slices"
	"testing"

	"loop.example/g00266/impl"
)

const (
	lastIndex = 100000
	lastSeq   = 800000
)

// ends are numbers that are out of range in whatever place.
func ends() []int64 {
	return []int64{math.MinInt64, math.MinInt64 + 1, -lastSeq, -100, -8, -2, -1, math.MaxInt64 - 1, math.MaxInt64}
}

// turnIndexes are indexes over their whole range, the edges among them.
func turnIndexes() []int64 {
	out := []int64{lastIndex - 2, lastIndex - 1, lastIndex}
	for i := range int64(60) {
		out = append(out, i, 1000+i*1601)
	}
	return out
}

// Promise 7: a seq tells its sender and its index.
func TestSeqsTellTheirSendersAndIndexes(t *testing.T) {
	for n := int64(1); n <= 8; n++ {
		for sender := range n {
			for _, index := range turnIndexes() {
				want := n*index + sender
				if got := impl.SeqOf(n, sender, index); got != want {
					t.Fatalf("SeqOf(%d, %d, %d) is %d, not %d", n, sender, index, got, want)
				}
				if want > lastSeq {
					continue
				}
				if impl.SenderOf(n, want) != sender || impl.IndexOf(n, want) != index {
					t.Fatalf("of %d, %d: SenderOf %d, not %d, IndexOf %d, not %d",
						n, want, impl.SenderOf(n, want), sender, impl.IndexOf(n, want), index)
				}
			}
		}
	}
}

// Promise 7: and the other way round, with nobody passed over: from seq to seq it is the next sender's turn, and behind the last one the next index.
func TestSeqsInTurn(t *testing.T) {
	for n := int64(1); n <= 8; n++ {
		sender, index := int64(0), int64(0)
		for seq := range int64(lastSeq + 1) {
			if impl.SenderOf(n, seq) != sender || impl.IndexOf(n, seq) != index {
				t.Fatalf("of %d, %d: SenderOf %d, not %d, IndexOf %d, not %d",
					n, seq, impl.SenderOf(n, seq), sender, impl.IndexOf(n, seq), index)
			}
			if index <= lastIndex && impl.SeqOf(n, sender, index) != seq {
				t.Fatalf("SeqOf(%d, %d, %d) is %d, not %d", n, sender, index, impl.SeqOf(n, sender, index), seq)
			}
			sender++
			if sender == n {
				sender, index = 0, index+1
			}
		}
	}
}

func TestSeqsOfOneIndexLieSideBySide(t *testing.T) {
	for n := int64(1); n <= 8; n++ {
		for index := range int64(2000) {
			for sender := int64(1); sender < n; sender++ {
				if impl.SeqOf(n, sender, index) != impl.SeqOf(n, sender-1, index)+1 {
					t.Fatalf("of %d: index %d of %d does not come next behind %d", n, index, sender, sender-1)
				}
			}
			for sender := range n {
				if impl.SeqOf(n, sender, index+1) <= impl.SeqOf(n, n-1, index) {
					t.Fatalf("of %d: index %d of %d comes ahead of index %d of %d", n, index+1, sender, index, n-1)
				}
			}
		}
	}
}

func TestSeqsWrittenOut(t *testing.T) {
	cases := []struct{ n, sender, index, seq int64 }{
		{1, 0, 0, 0}, {1, 0, 1, 1}, {1, 0, 100000, 100000},
		{2, 0, 0, 0}, {2, 1, 0, 1}, {2, 0, 1, 2}, {2, 1, 100000, 200001},
		{3, 2, 4, 14}, {3, 0, 5, 15}, {5, 4, 7, 39}, {7, 6, 100000, 700006},
		{8, 0, 0, 0}, {8, 7, 0, 7}, {8, 0, 1, 8}, {8, 7, 99999, 799999}, {8, 0, 100000, 800000},
	}
	for _, c := range cases {
		if impl.SeqOf(c.n, c.sender, c.index) != c.seq || impl.SenderOf(c.n, c.seq) != c.sender || impl.IndexOf(c.n, c.seq) != c.index {
			t.Errorf("%v: SeqOf %d, SenderOf %d, IndexOf %d", c,
				impl.SeqOf(c.n, c.sender, c.index), impl.SenderOf(c.n, c.seq), impl.IndexOf(c.n, c.seq))
		}
	}
	// The last senders of the last index have seqs that are out of range for SenderOf and IndexOf.
	if got := impl.SeqOf(8, 7, 100000); got != 800007 || impl.SenderOf(8, got) != -1 || impl.IndexOf(8, got) != -1 {
		t.Errorf("SeqOf(8, 7, 100000) is %d", got)
	}
	// And of few senders there are seqs with an index that SeqOf does not take.
	if got := impl.IndexOf(1, 800000); got != 800000 || impl.SenderOf(1, 800000) != 0 {
		t.Errorf("IndexOf(1, 800000) is %d", got)
	}
}

func checkNoSeq(t *testing.T, n, sender, index int64) {
	t.Helper()
	if got := impl.SeqOf(n, sender, index); got != -1 {
		t.Errorf("SeqOf(%d, %d, %d) is %d", n, sender, index, got)
	}
}

func checkNoTurn(t *testing.T, n, seq int64) {
	t.Helper()
	if sender, index := impl.SenderOf(n, seq), impl.IndexOf(n, seq); sender != -1 || index != -1 {
		t.Errorf("of %d, %d: SenderOf %d, IndexOf %d", n, seq, sender, index)
	}
}

// Promise 21: whatever is out of range in any one place, the other places being right.
func TestSeqsOutOfRange(t *testing.T) {
	for _, n := range append(ends(), 0, 9, 10, 16, 100000, 800000) {
		for _, other := range []int64{0, 1, 7, 8, 99, lastIndex} {
			checkNoSeq(t, n, 0, other)
			checkNoSeq(t, n, 1, other)
			checkNoTurn(t, n, other)
		}
		checkNoTurn(t, n, lastSeq)
	}
	for n := int64(1); n <= 8; n++ {
		for _, sender := range append(ends(), n, n+1, 8, 9, lastIndex) {
			for _, index := range []int64{0, 1, 50, lastIndex} {
				checkNoSeq(t, n, sender, index)
			}
		}
		for sender := range n {
			for _, index := range append(ends(), lastIndex+1, lastIndex+2, lastSeq) {
				checkNoSeq(t, n, sender, index)
			}
		}
		for _, seq := range append(ends(), lastSeq+1, lastSeq+2, lastSeq+8, 8000000) {
			checkNoTurn(t, n, seq)
		}
	}
}

// Promise 21: nor may two that are out of range make up for each other.
func TestSeqsOutOfRangeInManyPlaces(t *testing.T) {
	wrong := append(ends(), 9, lastSeq+1)
	for _, a := range wrong {
		for _, b := range wrong {
			checkNoTurn(t, a, b)
			checkNoSeq(t, a, b, 0)
			checkNoSeq(t, a, 0, b)
			checkNoSeq(t, 3, a, b)
			for _, c := range wrong {
				checkNoSeq(t, a, b, c)
			}
		}
	}
}

// isBelow is the document's own word: is this the seq of a message with an index below its sender's count?
func isBelow(counts []int64, seq int64) bool {
	n := int64(len(counts))
	return seq/n < counts[seq%n]
}

// weave takes all messages by their senders, and sorts their seqs.
func weave(counts []int64) []int64 {
	var out []int64
	for sender, count := range counts {
		for index := range count {
			out = append(out, int64(len(counts))*index+int64(sender))
		}
	}
	slices.Sort(out)
	return out
}

func firstGap(counts []int64) int64 {
	seq := int64(0)
	for isBelow(counts, seq) {
		seq++
	}
	return seq
}

func totalOf(counts []int64) int64 {
	total := int64(0)
	for _, n := range counts {
		total += n
	}
	return total
}

// smallCounts are in all at most 200 messages.
func smallCounts() [][]int64 {
	out := [][]int64{
		{200}, {199}, {100, 100}, {0, 200}, {200, 0}, {1, 199}, {67, 67, 66}, {66, 67, 67}, repeated(25, 8),
		{24, 25, 25, 25, 25, 25, 25, 26}, {0, 0, 0, 0, 0, 0, 0, 200}, {200, 0, 0, 0, 0, 0, 0, 0}, {2, 1, 3}, {40, 40, 40, 40, 40},
	}
	for length := 1; length <= 8; length++ {
		out = append(out, repeated(0, length), repeated(1, length), repeated(9, length))
		for place := range length {
			for _, n := range []int64{0, 1, 2, 3, 4, 5, 60} {
				counts := repeated(3, length)
				counts[place] = n
				alone := repeated(0, length)
				alone[place] = n
				out = append(out, counts, alone)
			}
		}
	}
	for length, among := range [][]int64{1: {0, 1, 2, 3, 50}, 2: {0, 1, 2, 3, 9}, 3: {0, 1, 2, 3}, 4: {0, 1, 2, 3}, 5: {0, 1, 2}, 6: {0, 1, 2}} {
		if length > 0 {
			out = append(out, allLists(length, among...)...)
		}
	}
	lot := rand.New(rand.NewSource(7))
	for range 1500 {
		counts := make([]int64, 1+lot.Intn(8))
		for i := range counts {
			counts[i] = lot.Int63n(26)
		}
		out = append(out, counts)
	}
	return out
}

// manyCounts are in all more than 200 messages.
func manyCounts() [][]int64 {
	out := [][]int64{
		{201}, {202}, {100, 101}, {101, 100}, {0, 201}, {201, 0}, {1, 200}, {200, 1}, {67, 67, 67},
		{25, 25, 25, 25, 25, 25, 25, 26}, {26, 25, 25, 25, 25, 25, 25, 25}, {0, 0, 0, 0, 0, 0, 0, 201},
		{1000}, {2000, 1999, 2001}, {500, 0, 500}, {300, 2, 0}, {lastIndex}, {0, lastIndex}, {lastIndex, 0},
		{lastIndex, lastIndex - 1}, {lastIndex - 1, lastIndex}, {lastIndex, 7, lastIndex},
	}
	for length := 1; length <= 8; length++ {
		out = append(out, repeated(lastIndex, length), repeated(lastIndex-1, length))
		for place := range length {
			counts := repeated(lastIndex, length)
			counts[place] = int64(1000 * place)
			alone := repeated(0, length)
			alone[place] = lastIndex
			out = append(out, counts, alone)
		}
	}
	lot := rand.New(rand.NewSource(71))
	for range 100 {
		counts := make([]int64, 1+lot.Intn(8))
		for i := range counts {
			counts[i] = 201 + lot.Int63n(3000)
		}
		out = append(out, counts)
	}
	return out
}

// Promise 7: Woven rises, and has each message below its sender's count just once, and no other one.
func TestWovenIsAllThatAreBelow(t *testing.T) {
	for _, counts := range smallCounts() {
		got := impl.Woven(counts)
		if want := weave(counts); !slices.Equal(got, want) {
			t.Fatalf("Woven(%v) is %v, not %v", counts, got, want)
		}
		if int64(len(got)) != totalOf(counts) {
			t.Fatalf("Woven(%v) are %d, not %d", counts, len(got), totalOf(counts))
		}
		n := int64(len(counts))
		found := make([]int64, n)
		for i, seq := range got {
			if i > 0 && got[i-1] >= seq {
				t.Fatalf("Woven(%v) is %v: it does not rise", counts, got)
			}
			sender := impl.SenderOf(n, seq)
			if impl.IndexOf(n, seq) != found[sender] {
				t.Fatalf("Woven(%v) is %v: %d is not what %d says next", counts, got, seq, sender)
			}
			found[sender]++
		}
		if !slices.Equal(found, counts) {
			t.Fatalf("Woven(%v) is %v: of each sender %v", counts, got, found)
		}
	}
}

// Promise 7: Ready are the first of Woven.
func TestReadyAreTheFirstOfWoven(t *testing.T) {
	for _, counts := range smallCounts() {
		woven, ready := impl.Woven(counts), impl.Ready(counts)
		if want := firstGap(counts); ready != want || int64(len(woven)) < want {
			t.Fatalf("Ready(%v) is %d, not %d, of %v", counts, ready, want, woven)
		}
		for i := range ready {
			if woven[i] != i {
				t.Fatalf("of %v: Ready %d, but number %d of Woven is %d", counts, ready, i, woven[i])
			}
		}
		if slices.Contains(woven, ready) || isBelow(counts, ready) {
			t.Fatalf("of %v: Ready %d, but Woven has it, too: %v", counts, ready, woven)
		}
	}
}

// Ready has no limit of 200, and Woven has.
func TestReadyAndWovenOfMany(t *testing.T) {
	for _, counts := range manyCounts() {
		if got, want := impl.Ready(counts), firstGap(counts); got != want {
			t.Errorf("Ready(%v) is %d, not %d", counts, got, want)
		}
		if got := impl.Woven(counts); len(got) != 0 {
			t.Errorf("Woven(%v) are %d", counts, len(got))
		}
	}
}

// With one more message no less is Ready, and it is more just where the gap is filled.
func TestReadyGrowsWhereTheGapIsFilled(t *testing.T) {
	for _, counts := range smallCounts() {
		before := firstGap(counts)
		for sender := range counts {
			more := slices.Clone(counts)
			more[sender]++
			after := impl.Ready(more)
			if fills := int64(sender) == before%int64(len(counts)); (after > before) != fills || after < before {
				t.Fatalf("Ready(%v) is %d, Ready(%v) is %d", counts, before, more, after)
			}
		}
	}
}

func TestCountsWrittenOut(t *testing.T) {
	cases := []struct {
		counts []int64
		ready  int64
		woven  []int64
	}{
		{[]int64{0}, 0, nil},
		{[]int64{1}, 1, []int64{0}},
		{[]int64{4}, 4, []int64{0, 1, 2, 3}},
		{repeated(0, 8), 0, nil},
		{repeated(1, 8), 8, []int64{0, 1, 2, 3, 4, 5, 6, 7}},
		{[]int64{2, 1, 3}, 4, []int64{0, 1, 2, 3, 5, 8}},
		{[]int64{0, 2, 2}, 0, []int64{1, 2, 4, 5}},
		{[]int64{2, 0, 2}, 1, []int64{0, 2, 3, 5}},
		{[]int64{2, 2, 0}, 2, []int64{0, 1, 3, 4}},
		{[]int64{3, 2}, 5, []int64{0, 1, 2, 3, 4}},
		{[]int64{2, 3}, 4, []int64{0, 1, 2, 3, 5}},
		{[]int64{0, 0, 0, 0, 0, 0, 0, 2}, 0, []int64{7, 15}},
		{[]int64{2, 0, 0, 0, 0, 0, 0, 0}, 1, []int64{0, 8}},
		{repeated(lastIndex, 8), 800000, nil},
		{repeated(lastIndex, 1), 100000, nil},
		{[]int64{100000, 99999}, 199999, nil},
	}
	for _, c := range cases {
		if got := impl.Ready(c.counts); got != c.ready {
			t.Errorf("Ready(%v) is %d, not %d", c.counts, got, c.ready)
		}
		if got := impl.Woven(c.counts); !slices.Equal(got, c.woven) {
			t.Errorf("Woven(%v) is %v, not %v", c.counts, got, c.woven)
		}
	}
}

func checkNoCounts(t *testing.T, counts []int64) {
	t.Helper()
	if got := impl.Ready(counts); got != -1 {
		t.Errorf("Ready(%v) is %d", counts, got)
	}
	if got := impl.Woven(counts); len(got) != 0 {
		t.Errorf("Woven(%v) is %v", counts, got)
	}
}

// Promise 21: one number that is none spoils the counts, wherever it stands, and whatever the sum comes to.
func TestCountsThatAreNone(t *testing.T) {
	for _, v := range noVectors() {
		checkNoCounts(t, v)
	}
	for _, length := range []int{9, 10, 16, 200, 1000} {
		checkNoCounts(t, repeated(0, length))
		checkNoCounts(t, repeated(1, length))
	}
	wrong := append(ends(), lastIndex+1, lastIndex+2, most-1, most, most+1)
	for length := 1; length <= 8; length++ {
		for place := range length {
			for _, n := range wrong {
				for _, other := range []int64{0, 1, 20, lastIndex} {
					counts := repeated(other, length)
					counts[place] = n
					checkNoCounts(t, counts)
				}
			}
		}
	}
	for _, pair := range allLists(2, wrong...) {
		checkNoCounts(t, pair)
		checkNoCounts(t, append(repeated(2, 5), pair...))
	}
}

func roundCases() [][]int64 {
	out := [][]int64{{200}, {201}, {2, 1, 3}, repeated(25, 8), repeated(0, 8), repeated(0, 9), {lastIndex + 1}, {-1, 3}, {lastIndex, 5}}
	return slices.Concat(out, allLists[int64](3, -1, 0, 1, 4), noVectors())
}

// Promise 21: arguments stay, and so does the spare room behind them.
func TestRoundArgumentsStay(t *testing.T) {
	for _, list := range roundCases() {
		counts := roomy(list)
		was := whole(counts)
		impl.Ready(counts)
		impl.Woven(counts)
		if !slices.Equal(whole(counts), was) {
			t.Fatalf("%v became %v", was, whole(counts))
		}
	}
}

// Promise 21: what lies in the spare room behind the counts is no count.
func TestCountsEndWhereTheyEnd(t *testing.T) {
	for _, list := range smallCounts() {
		counts := roomyWith(list, 5)
		if impl.Ready(counts) != firstGap(list) || !slices.Equal(impl.Woven(counts), weave(list)) {
			t.Fatalf("of %v: Ready %d, Woven %v", list, impl.Ready(counts), impl.Woven(counts))
		}
	}
}

// Promise 21: writing over an answer, and the room behind it, changes no argument and no other answer.
func TestRoundAnswersAreNewMemory(t *testing.T) {
	for _, list := range roundCases() {
		counts := roomy(list)
		was := whole(counts)
		earlier := impl.Woven(counts)
		want := slices.Clone(earlier)
		scribble(impl.Woven(counts))
		if !slices.Equal(whole(counts), was) {
			t.Fatalf("Woven(%v) shares memory with its argument", list)
		}
		if !slices.Equal(earlier, want) || !slices.Equal(impl.Woven(counts), want) {
			t.Fatalf("Woven(%v) shares memory with another answer", list)
		}
	}
}
