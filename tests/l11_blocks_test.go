package tests

import (
	"fmt"
	"math"
	"math/rand"
	"slices"
	"strings"
	"testing"
	"unsafe"

	"loop.example/g00266/impl"
)

const (
	lastTotal   = 12
	longestPart = 100
)

func block(index, total int64, text string) impl.Block {
	return impl.Block{Index: index, Total: total, Text: text}
}

func toldBlocks(list []impl.Block) string {
	return shortened(fmt.Sprint(list))
}

// isBlock is what the document asks of a Block, word by word.
func isBlock(b impl.Block) bool {
	return b.Total >= 1 && b.Total <= lastTotal && b.Index >= 0 && b.Index < b.Total && len(b.Text) <= longestPart
}

// partCount is how many parts there are of so many bytes: one at least.
func partCount(length int, size int64) int64 {
	count := int64(length) / size
	if int64(length)%size > 0 || length == 0 {
		count++
	}
	return count
}

// splitUp is the rule of Split by where each part begins and ends.
func splitUp(s string, size int64) []impl.Block {
	if size < 1 || size > longestPart {
		return nil
	}
	total := partCount(len(s), size)
	if total > lastTotal {
		return nil
	}
	var out []impl.Block
	for i := range total {
		out = append(out, block(i, total, s[i*size:min((i+1)*size, int64(len(s)))]))
	}
	return out
}

func lackingOf(list []impl.Block, total int64) []int64 {
	var out []int64
	if total < 1 || total > lastTotal {
		return out
	}
	for index := range total {
		if !slices.ContainsFunc(list, func(b impl.Block) bool { return isBlock(b) && b.Total == total && b.Index == index }) {
			out = append(out, index)
		}
	}
	return out
}

func joinedOf(list []impl.Block) (string, bool) {
	if len(list) == 0 {
		return "", false
	}
	for _, b := range list {
		if !isBlock(b) || b.Total != list[0].Total {
			return "", false
		}
	}
	text := ""
	for index := range list[0].Total {
		at := slices.IndexFunc(list, func(b impl.Block) bool { return b.Index == index })
		if at < 0 {
			return "", false
		}
		text += list[at].Text
	}
	return text, true
}

func checkSplit(t *testing.T, s string, size int64) []impl.Block {
	t.Helper()
	got := impl.Split(s, size)
	if want := splitUp(s, size); !slices.Equal(got, want) {
		t.Fatalf("Split(%s, %d) is %d Blocks %s, not %d", shortened(s), size, len(got), toldBlocks(got), len(want))
	}
	return got
}

func checkLacking(t *testing.T, list []impl.Block, total int64) {
	t.Helper()
	if got, want := impl.Lacking(list, total), lackingOf(list, total); !slices.Equal(got, want) {
		t.Fatalf("Lacking(%s, %d) is %v, not %v", toldBlocks(list), total, got, want)
	}
}

func checkJoined(t *testing.T, list []impl.Block) {
	t.Helper()
	got, is := impl.Joined(list)
	if want, wantIs := joinedOf(list); got != want || is != wantIs {
		t.Fatalf("Joined(%s) is %q and %v, not %q and %v", toldBlocks(list), got, is, want, wantIs)
	}
}

func checkText(t *testing.T, list []impl.Block, want string) {
	t.Helper()
	if got, is := impl.Joined(list); !is || got != want {
		t.Fatalf("Joined(%s) is %s and %v, not %s", toldBlocks(list), shortened(got), is, shortened(want))
	}
}

func checkNotJoined(t *testing.T, list []impl.Block) {
	t.Helper()
	if got, is := impl.Joined(list); is || got != "" {
		t.Fatalf("Joined(%s) is %s and %v", toldBlocks(list), shortened(got), is)
	}
}

func checkNotSplit(t *testing.T, s string, size int64) {
	t.Helper()
	if got := impl.Split(s, size); len(got) != 0 {
		t.Fatalf("Split(%s, %d) is %s", shortened(s), size, toldBlocks(got))
	}
}

// without is the list without each Block of this Index.
func without(list []impl.Block, index int64) []impl.Block {
	return slices.DeleteFunc(slices.Clone(list), func(b impl.Block) bool { return b.Index == index })
}

func shuffled(lot *rand.Rand, list []impl.Block) []impl.Block {
	out := slices.Clone(list)
	lot.Shuffle(len(out), func(i, k int) { out[i], out[k] = out[k], out[i] })
	return out
}

// doubled is the list in another order, with some of them twice or more.
func doubled(lot *rand.Rand, list []impl.Block) []impl.Block {
	out := slices.Clone(list)
	for range 1 + lot.Intn(8) {
		out = append(out, list[lot.Intn(len(list))])
	}
	return shuffled(lot, out)
}

func ordersOf[T any](list []T) [][]T {
	out := [][]T{{}}
	for _, b := range list {
		var longer [][]T
		for _, order := range out {
			for place := range len(order) + 1 {
				longer = append(longer, slices.Insert(slices.Clone(order), place, b))
			}
		}
		out = longer
	}
	return out
}

// splitLengths are all up to three parts, and around each multiple of the size up to 13 parts.
func splitLengths(size int64) []int {
	out := []int{}
	for length := range 3*size + 2 {
		out = append(out, int(length))
	}
	for parts := int64(4); parts <= lastTotal+1; parts++ {
		out = append(out, int(parts*size)-1, int(parts*size), int(parts*size)+1)
	}
	return out
}

// blockTexts are of every kind: without a byte, with all bytes, with runes that a part may cut.
func blockTexts() []string {
	lot := rand.New(rand.NewSource(11))
	bytes := make([]byte, 256)
	for i := range bytes {
		bytes[i] = byte(i)
	}
	out := []string{"", "a", "\n", "\x00", "\xff", "abcdefg", "äöü€𝄞", strings.Repeat("€", 40), strings.Repeat("\x00", 120), strings.Repeat("\n", 11), strings.Repeat("x", 1200), string(bytes)}
	slices.Reverse(bytes)
	out = append(out, string(bytes))
	for range 30 {
		out = append(out, drawnText(lot, lot.Intn(1300)))
	}
	return out
}

// checkParts is what the document says of the parts of a text, one by one.
func checkParts(t *testing.T, s string, size int64, list []impl.Block) {
	t.Helper()
	total := partCount(len(s), size)
	if int64(len(list)) != total {
		t.Fatalf("Split(%s, %d) are %d Blocks, not %d", shortened(s), size, len(list), total)
	}
	rest := s
	for i, b := range list {
		if b.Index != int64(i) || b.Total != total {
			t.Fatalf("Split(%s, %d): Block %d is %v", shortened(s), size, i, b)
		}
		if int64(i) < total-1 && int64(len(b.Text)) != size {
			t.Fatalf("Split(%s, %d): Block %d has %d bytes", shortened(s), size, i, len(b.Text))
		}
		if !strings.HasPrefix(rest, b.Text) || len(b.Text) == 0 && s != "" {
			t.Fatalf("Split(%s, %d): Block %d has %q", shortened(s), size, i, b.Text)
		}
		rest = rest[len(b.Text):]
	}
	if rest != "" {
		t.Fatalf("Split(%s, %d) leaves %q out", shortened(s), size, rest)
	}
}

// checkBack: in whatever order, with whichever twice, the text comes back; without one it does not, and just that one is lacking.
func checkBack(t *testing.T, lot *rand.Rand, s string, list []impl.Block) {
	t.Helper()
	total := int64(len(list))
	back := slices.Clone(list)
	slices.Reverse(back)
	for _, order := range [][]impl.Block{list, back, shuffled(lot, list), slices.Concat(list, list), slices.Concat(list, back), doubled(lot, list), doubled(lot, list)} {
		checkText(t, order, s)
		if got := impl.Lacking(order, total); len(got) != 0 {
			t.Fatalf("Lacking(%s, %d) is %v", toldBlocks(order), total, got)
		}
	}
	for index := range total {
		for _, order := range [][]impl.Block{without(list, index), without(doubled(lot, list), index)} {
			checkNotJoined(t, order)
			if got := impl.Lacking(order, total); !slices.Equal(got, []int64{index}) {
				t.Fatalf("without %d: Lacking(%s, %d) is %v", index, toldBlocks(order), total, got)
			}
		}
	}
}

// Promise 11: for each size, with lengths around each multiple of it.
func TestJoinedOfSplitIsTheText(t *testing.T) {
	lot := rand.New(rand.NewSource(111))
	for size := int64(1); size <= longestPart; size++ {
		for _, length := range splitLengths(size) {
			s := drawnText(lot, length)
			list := checkSplit(t, s, size)
			if partCount(length, size) <= lastTotal {
				checkParts(t, s, size, list)
				checkBack(t, lot, s, list)
			}
		}
	}
}

// Promise 11: texts with every byte, and each size.
func TestJoinedOfSplitOfTextsOfEveryKind(t *testing.T) {
	lot := rand.New(rand.NewSource(112))
	for _, s := range blockTexts() {
		for size := int64(1); size <= longestPart; size++ {
			list := checkSplit(t, s, size)
			if len(list) > 0 {
				checkParts(t, s, size, list)
				checkBack(t, lot, s, list)
			}
		}
	}
	for b := range 256 {
		for _, s := range []string{string([]byte{byte(b)}), strings.Repeat(string([]byte{byte(b)}), 7)} {
			checkBack(t, lot, s, checkSplit(t, s, 3))
			checkBack(t, lot, s, checkSplit(t, s, 1))
		}
	}
}

// Promise 11: in all orders there are.
func TestJoinedInAllOrders(t *testing.T) {
	for _, s := range []string{"", "a", "ab", "abc", "abcd", "abcde", "abcdef", "abcdefg"} {
		list := impl.Split(s, 1)
		if int64(len(list)) != partCount(len(s), 1) {
			t.Fatalf("Split(%q, 1) is %s", s, toldBlocks(list))
		}
		for _, order := range ordersOf(list) {
			checkText(t, order, s)
		}
	}
	list := impl.Split("aaabbbccc", 3)
	for length := range 6 {
		for _, order := range allLists(length, list...) {
			checkJoined(t, order)
			checkLacking(t, order, 3)
		}
	}
}

func TestSplitWrittenOut(t *testing.T) {
	cases := []struct {
		s    string
		size int64
		want []impl.Block
	}{
		{"", 1, []impl.Block{block(0, 1, "")}},
		{"", 5, []impl.Block{block(0, 1, "")}},
		{"", 100, []impl.Block{block(0, 1, "")}},
		{"a", 1, []impl.Block{block(0, 1, "a")}},
		{"a", 100, []impl.Block{block(0, 1, "a")}},
		{"ab", 1, []impl.Block{block(0, 2, "a"), block(1, 2, "b")}},
		{"abcdef", 3, []impl.Block{block(0, 2, "abc"), block(1, 2, "def")}},
		{"abcdefg", 3, []impl.Block{block(0, 3, "abc"), block(1, 3, "def"), block(2, 3, "g")}},
		{"abcde", 3, []impl.Block{block(0, 2, "abc"), block(1, 2, "de")}},
		{"abcdefg", 7, []impl.Block{block(0, 1, "abcdefg")}},
		{"abcdefg", 8, []impl.Block{block(0, 1, "abcdefg")}},
		{"abcdefg", 6, []impl.Block{block(0, 2, "abcdef"), block(1, 2, "g")}},
		{"ä€", 2, []impl.Block{block(0, 3, "ä"), block(1, 3, "\xe2\x82"), block(2, 3, "\xac")}},
		{"", 0, nil},
		{"", 101, nil},
		{"", -1, nil},
		{"abc", 0, nil},
		{"abc", 101, nil},
		{"abc", -1, nil},
		{"abcdefghijklm", 1, nil},
	}
	for _, c := range cases {
		if got := impl.Split(c.s, c.size); !slices.Equal(got, c.want) {
			t.Errorf("Split(%q, %d) is %s, not %s", c.s, c.size, toldBlocks(got), toldBlocks(c.want))
		}
	}
}

// 12 parts are accepted, and 13 refused, whatever the size.
func TestSplitAtTheLimits(t *testing.T) {
	for size := int64(1); size <= longestPart; size++ {
		full := strings.Repeat("x", int(size)*lastTotal)
		if got := impl.Split(full, size); len(got) != lastTotal || len(got[lastTotal-1].Text) != int(size) {
			t.Fatalf("Split of %d bytes in %d is %s", len(full), size, toldBlocks(got))
		}
		for _, more := range []string{"y", full[1:], full} {
			checkNotSplit(t, full+more, size)
		}
	}
	for _, s := range append(blockTexts(), strings.Repeat("z", 100), strings.Repeat("z", 101)) {
		for _, size := range []int64{-1, 0, 1, 2, 99, 100, 101, 102} {
			checkSplit(t, s, size)
		}
		for _, size := range append(ends(), 0, 101, 102, 1<<32+5, -1<<32+5, 256+5) {
			checkNotSplit(t, s, size)
		}
	}
}

// Of each Index it is the first such Block's Text, wherever the others stand and however long they are.
func TestJoinedTakesTheFirst(t *testing.T) {
	cases := []struct {
		list []impl.Block
		want string
	}{
		{[]impl.Block{block(0, 1, "a"), block(0, 1, "b")}, "a"},
		{[]impl.Block{block(0, 1, ""), block(0, 1, "b")}, ""},
		{[]impl.Block{block(0, 1, "b"), block(0, 1, "")}, "b"},
		{[]impl.Block{block(0, 1, "c"), block(0, 1, "b"), block(0, 1, "a")}, "c"},
		{[]impl.Block{block(1, 2, "x"), block(0, 2, "a"), block(1, 2, "y"), block(0, 2, "b")}, "ax"},
		{[]impl.Block{block(1, 2, "x"), block(1, 2, "y"), block(0, 2, "b"), block(0, 2, "a")}, "bx"},
		{[]impl.Block{block(2, 3, ""), block(1, 3, ""), block(2, 3, "c"), block(0, 3, ""), block(1, 3, "b"), block(0, 3, "a")}, ""},
		{[]impl.Block{block(0, 2, "long and longer"), block(1, 2, "!"), block(0, 2, "short")}, "long and longer!"},
	}
	for _, c := range cases {
		checkText(t, c.list, c.want)
		checkLacking(t, c.list, c.list[0].Total)
	}
	for length := range 6 {
		for _, list := range allLists(length, block(0, 2, "a"), block(0, 2, ""), block(1, 2, "b"), block(1, 2, "c")) {
			checkJoined(t, list)
			checkLacking(t, list, 2)
		}
	}
}

// rightBlocks are all Totals with each Index, with a Text of no byte, of one and of 100.
func rightBlocks() []impl.Block {
	var out []impl.Block
	for total := int64(1); total <= lastTotal; total++ {
		for index := range total {
			out = append(out, block(index, total, ""), block(index, total, "x"), block(index, total, strings.Repeat("y", 100)))
		}
	}
	return out
}

// wrongBlocks have a Total, an Index or a Text that is not as told, and nothing else that is wrong wherever that can be.
func wrongBlocks() []impl.Block {
	out := []impl.Block{{}, block(0, 0, "x"), block(-1, 0, "x"), block(0, 13, "x"), block(12, 13, "x"), block(-1, -1, ""), block(13, 14, "x")}
	for total := int64(1); total <= lastTotal; total++ {
		for _, index := range append(ends(), total, total+1, 12, 13, 1<<32, -1<<32, 256) {
			out = append(out, block(index, total, "x"))
		}
		for index := range total {
			for _, length := range []int{101, 102, 200, 1000, 65536} {
				out = append(out, block(index, total, strings.Repeat("z", length)))
			}
		}
	}
	for _, total := range append(ends(), 0, 13, 14, 100, 1<<32+2, -1<<32+2, 256+2) {
		for _, index := range append(ends(), 0, 1, 11, 12, 13, total-1, total) {
			out = append(out, block(index, total, "x"))
		}
	}
	return slices.DeleteFunc(out, isBlock)
}

func wholeOfTotal(total int64) []impl.Block {
	var out []impl.Block
	for index := range total {
		out = append(out, block(index, total, string(rune('a'+index))))
	}
	return out
}

func TestWholeBlocksOfEachTotal(t *testing.T) {
	for total := int64(1); total <= lastTotal; total++ {
		checkText(t, wholeOfTotal(total), "abcdefghijkl"[:total])
		full := wholeOfTotal(total)
		for i := range full {
			full[i].Text = strings.Repeat(full[i].Text, 100)
		}
		if got, is := impl.Joined(full); !is || len(got) != int(total)*100 {
			t.Fatalf("of %d Texts of 100 bytes: %d bytes and %v", total, len(got), is)
		}
		full[total-1].Text += "z"
		checkNotJoined(t, full)
		if got := impl.Lacking(full, total); !slices.Equal(got, []int64{total - 1}) {
			t.Fatalf("with a last Text of 101 bytes: Lacking is %v", got)
		}
	}
	for _, total := range []int64{0, 13, 14, 100} {
		checkNotJoined(t, wholeOfTotal(total))
		checkLacking(t, wholeOfTotal(total), total)
	}
}

// Each one of 12 parts, and each set of those that are lacking.
func TestEachSetOfLackingOnes(t *testing.T) {
	lot := rand.New(rand.NewSource(113))
	all := wholeOfTotal(lastTotal)
	for bits := range 1 << lastTotal {
		var list []impl.Block
		var want []int64
		for index := range int64(lastTotal) {
			if bits>>index&1 == 1 {
				list = append(list, all[index])
			} else {
				want = append(want, index)
			}
		}
		list = shuffled(lot, list)
		if got := impl.Lacking(list, lastTotal); !slices.Equal(got, want) {
			t.Fatalf("Lacking(%s, 12) is %v, not %v", toldBlocks(list), got, want)
		}
		if _, is := impl.Joined(list); is != (len(want) == 0) {
			t.Fatalf("Joined(%s) is %v", toldBlocks(list), is)
		}
	}
}

// Lacking asks the right Blocks with this Total alone.
func TestLackingPassesOver(t *testing.T) {
	wrong := wrongBlocks()
	for total := int64(1); total <= lastTotal; total++ {
		others := slices.DeleteFunc(rightBlocks(), func(b impl.Block) bool { return b.Total == total })
		for _, list := range [][]impl.Block{nil, {}, wrong, others, slices.Concat(wrong, others)} {
			if got := impl.Lacking(list, total); !slices.Equal(got, firstNumbers(total)) {
				t.Fatalf("of no right Block with Total %d: Lacking is %v", total, got)
			}
		}
		for index := range total {
			want := slices.Delete(firstNumbers(total), int(index), int(index)+1)
			one := []impl.Block{block(index, total, "x")}
			for _, list := range [][]impl.Block{one, slices.Concat(one, wrong), slices.Concat(wrong, one), slices.Concat(others, one, one, wrong, one)} {
				if got := impl.Lacking(list, total); !slices.Equal(got, want) {
					t.Fatalf("of Index %d alone: Lacking of %d is %v, not %v", index, total, got, want)
				}
			}
		}
		checkLacking(t, slices.Concat(wrong, wholeOfTotal(total), others), total)
	}
}

func TestLackingOfATotalOutOfRange(t *testing.T) {
	lists := [][]impl.Block{nil, {block(0, 1, "")}, rightBlocks(), wrongBlocks(), slices.Concat(rightBlocks(), wrongBlocks())}
	for _, total := range append(ends(), 0, 13, 14, 100, 1<<32+1, -1<<32+1, 256+1) {
		same := []impl.Block{block(0, total, ""), block(total-1, total, "x")}
		for _, list := range append(lists, same) {
			if got := impl.Lacking(list, total); len(got) != 0 {
				t.Fatalf("Lacking of %d is %v", total, got)
			}
		}
	}
	for total := int64(-3); total <= 16; total++ {
		for _, list := range lists {
			checkLacking(t, list, total)
		}
	}
}

func TestJoinedOfNoBlock(t *testing.T) {
	checkNotJoined(t, nil)
	checkNotJoined(t, []impl.Block{})
	checkNotJoined(t, wholeOfTotal(3)[:0])
}

// One that is not right, wherever it stands, and though nothing is lacking without it.
func TestJoinedWithOneThatIsNotRight(t *testing.T) {
	for _, wrong := range wrongBlocks() {
		checkNotJoined(t, []impl.Block{wrong})
		checkNotJoined(t, []impl.Block{wrong, wrong})
		for _, total := range []int64{1, 2, 3, 12} {
			whole := wholeOfTotal(total)
			for place := range len(whole) + 1 {
				checkNotJoined(t, slices.Insert(slices.Clone(whole), place, wrong))
			}
			for place := range whole {
				list := slices.Clone(whole)
				list[place] = wrong
				checkNotJoined(t, list)
			}
		}
	}
}

// Two Totals, wherever the other one stands, and though each may be whole.
func TestJoinedWithTwoTotals(t *testing.T) {
	for total := int64(1); total <= lastTotal; total++ {
		whole := wholeOfTotal(total)
		for other := int64(1); other <= lastTotal; other++ {
			if other == total {
				continue
			}
			checkNotJoined(t, slices.Concat(whole, wholeOfTotal(other)))
			for index := range other {
				for place := range len(whole) + 1 {
					checkNotJoined(t, slices.Insert(slices.Clone(whole), place, block(index, other, "")))
				}
			}
		}
	}
}

// All lists of at most three Blocks out of these, right ones and others.
func TestAllSmallListsOfBlocks(t *testing.T) {
	some := []impl.Block{block(0, 1, "a"), block(0, 1, "b"), block(0, 2, "c"), block(1, 2, "d"), block(1, 2, ""), block(0, 3, "e"), block(1, 3, "f"), block(2, 3, "g"), block(1, 1, "h"), block(-1, 2, "i"), block(3, 3, "j"), block(0, 0, "k"), block(0, 13, "l"), block(0, 1, strings.Repeat("m", 101))}
	for length := range 4 {
		for _, list := range allLists(length, some...) {
			checkJoined(t, list)
			for _, total := range []int64{0, 1, 2, 3, 12, 13} {
				checkLacking(t, list, total)
			}
		}
	}
}

func TestDrawnListsOfBlocks(t *testing.T) {
	lot := rand.New(rand.NewSource(114))
	wrong := wrongBlocks()
	whole, broken := 0, 0
	for range 20000 {
		total := 1 + lot.Int63n(lastTotal)
		var list []impl.Block
		for range lot.Intn(40) {
			list = append(list, block(lot.Int63n(total), total, drawnText(lot, lot.Intn(101))))
		}
		if lot.Intn(4) == 0 {
			list = slices.Insert(list, lot.Intn(len(list)+1), wrong[lot.Intn(len(wrong))])
		}
		checkJoined(t, list)
		checkLacking(t, list, total)
		checkLacking(t, list, 1+lot.Int63n(lastTotal))
		if _, is := joinedOf(list); is {
			whole++
		} else {
			broken++
		}
	}
	if whole < 1000 || broken < 1000 {
		t.Fatalf("%d were whole and %d not", whole, broken)
	}
}

// Promise 21: the greatest and the least numbers in each place.
func TestBlockNumbersAtTheEnds(t *testing.T) {
	far := []int64{math.MinInt64, math.MinInt64 + 1, -1, 0, 1, 12, 13, math.MaxInt64 - 1, math.MaxInt64}
	for _, index := range far {
		for _, total := range far {
			for _, text := range []string{"", "x", strings.Repeat("y", 100), strings.Repeat("z", 101)} {
				b := block(index, total, text)
				for _, list := range [][]impl.Block{{b}, {b, b}, {block(0, 1, "a"), b}, {b, block(0, 1, "a")}, append(wholeOfTotal(12), b), append([]impl.Block{b}, wholeOfTotal(12)...)} {
					checkJoined(t, list)
					for _, asked := range far {
						checkLacking(t, list, asked)
					}
				}
			}
		}
	}
	for _, size := range far {
		for _, s := range []string{"", "a", "abcdefghijkl", "abcdefghijklm"} {
			checkSplit(t, s, size)
		}
	}
}

// Promise 21: very long lists and texts have their answers as any other ones.
func TestVeryLongListsAndTexts(t *testing.T) {
	long := slices.Repeat(wholeOfTotal(12), 50000)
	checkText(t, long, "abcdefghijkl")
	checkLacking(t, long, 12)
	checkLacking(t, long, 11)
	last := append(slices.Repeat(wholeOfTotal(12)[:11], 50000), block(11, 12, "last"))
	checkText(t, last, "abcdefghijklast")
	for _, list := range [][]impl.Block{last[:len(last)-1], append(slices.Clone(long), block(0, 11, "")), append(slices.Clone(long), block(12, 12, "")), slices.Repeat([]impl.Block{{}}, 500000)} {
		if got, is := impl.Joined(list); is || got != "" {
			t.Fatalf("Joined of %d Blocks is %s and %v", len(list), shortened(got), is)
		}
	}
	if got := impl.Lacking(last[:len(last)-1], 12); !slices.Equal(got, []int64{11}) {
		t.Fatalf("Lacking is %v", got)
	}
	text := strings.Repeat("x", 20000000)
	for _, size := range []int64{-1, 0, 1, 99, 100, 101, int64(len(text)), math.MaxInt64} {
		checkNotSplit(t, text, size)
	}
	checkNotJoined(t, []impl.Block{block(0, 1, text)})
	if got := impl.Lacking([]impl.Block{block(0, 1, text)}, 1); !slices.Equal(got, []int64{0}) {
		t.Fatalf("Lacking is %v", got)
	}
}

// sharedBytes tells whether two texts have a byte of memory in common.
func sharedBytes(a, b string) bool {
	if len(a) == 0 || len(b) == 0 {
		return false
	}
	atA, atB := uintptr(unsafe.Pointer(unsafe.StringData(a))), uintptr(unsafe.Pointer(unsafe.StringData(b)))
	return atA < atB+uintptr(len(b)) && atB < atA+uintptr(len(a))
}

// Promise 21: no text of an answer shares memory with the argument, with another one beside it, or with one of another answer.
func TestSplitTextsAreNewMemory(t *testing.T) {
	for _, s := range blockTexts() {
		for _, size := range []int64{1, 2, 7, 50, 99, 100} {
			bytes := roomyWith([]byte(s), 'm')
			was := whole(bytes)
			earlier := impl.Split(written(bytes), size)
			later := impl.Split(written(bytes), size)
			if !slices.Equal(whole(bytes), was) {
				t.Fatalf("%s or what is behind it changed", shortened(s))
			}
			all := slices.Concat(earlier, later)
			for i, b := range all {
				if sharedBytes(b.Text, written(bytes)) {
					t.Fatalf("Split(%s, %d): Block %d shares memory with the text", shortened(s), size, i)
				}
				for _, other := range all[:i] {
					if sharedBytes(b.Text, other.Text) {
						t.Fatalf("Split(%s, %d): Block %d shares memory with another one", shortened(s), size, i)
					}
				}
			}
			for i := range bytes {
				bytes[i] ^= 0x55
			}
			if want := splitUp(s, size); !slices.Equal(earlier, want) || !slices.Equal(later, want) {
				t.Fatalf("Split(%s, %d) changed with its text", shortened(s), size)
			}
		}
	}
}

// Promise 21: the text of Joined shares no memory with any Block's, nor with another answer, though there may be one Block alone with any bytes.
func TestJoinedTextsAreNewMemory(t *testing.T) {
	x := []byte("abc")
	lists := [][]impl.Block{
		{block(0, 1, written(x))},
		{block(0, 1, written(x)), block(0, 1, "other")},
		{block(0, 2, written(x)), block(1, 2, "")},
		{block(1, 2, written(x)), block(0, 2, "")},
		{block(2, 3, ""), block(1, 3, written(x)), block(0, 3, "")},
		{block(1, 2, written(x)), block(0, 2, written(x))},
		{block(0, 2, written(x[:1])), block(1, 2, written(x[1:]))},
	}
	for _, list := range lists {
		earlier, is := impl.Joined(list)
		later, _ := impl.Joined(list)
		if sharedBytes(earlier, later) || sharedBytes(earlier, written(x)) || sharedBytes(later, written(x)) {
			t.Fatalf("Joined(%s) shares memory", toldBlocks(list))
		}
		want, wantIs := joinedOf(list)
		want = strings.Clone(want)
		for i := range x {
			x[i] ^= 0x55
		}
		if earlier != want || later != want || is != wantIs {
			t.Fatalf("Joined is %q and %q, not %q: it changed with a Block's Text", earlier, later, want)
		}
		copy(x, "abc")
	}
}

func blockLists() [][]impl.Block {
	lot := rand.New(rand.NewSource(115))
	wrong := wrongBlocks()
	out := [][]impl.Block{nil, {}, {block(0, 1, "")}, rightBlocks(), wrong[:40], slices.Concat(wholeOfTotal(3), wrong[:5])}
	for total := int64(1); total <= lastTotal; total++ {
		out = append(out, wholeOfTotal(total), wholeOfTotal(total)[:total-1], doubled(lot, wholeOfTotal(total)), slices.Concat(wholeOfTotal(total), wholeOfTotal(3)))
	}
	return out
}

// Promise 21: arguments stay, and so does the spare room behind them; and what lies there is nobody's.
func TestBlockListsStayAndEndWhereTheyEnd(t *testing.T) {
	for _, list := range blockLists() {
		for _, mark := range []impl.Block{block(spareMark, spareMark, "spare"), block(0, int64(len(list))+1, ""), block(int64(len(list)), int64(len(list))+1, "spare"), {}} {
			roomier := roomyWith(list, mark)
			was := whole(roomier)
			checkJoined(t, roomier)
			for total := int64(-1); total <= lastTotal+1; total++ {
				checkLacking(t, roomier, total)
			}
			if !slices.Equal(whole(roomier), was) {
				t.Fatalf("%s became %s", toldBlocks(was), toldBlocks(whole(roomier)))
			}
		}
	}
}

// Promise 21: writing over an answer, and the room behind it, changes no other one.
func TestBlockAnswersAreNewMemory(t *testing.T) {
	for _, list := range blockLists() {
		for total := int64(0); total <= lastTotal+1; total++ {
			earlier := impl.Lacking(list, total)
			want := slices.Clone(earlier)
			scribble(impl.Lacking(list, total))
			if !slices.Equal(earlier, want) || !slices.Equal(impl.Lacking(list, total), want) {
				t.Fatalf("Lacking(%s, %d) shares memory with another answer", toldBlocks(list), total)
			}
		}
	}
	for _, s := range blockTexts() {
		for _, size := range []int64{0, 1, 2, 7, 99, 100, 101} {
			earlier := impl.Split(s, size)
			want := slices.Clone(earlier)
			over := impl.Split(s, size)
			over = over[:cap(over)]
			for i := range over {
				over[i] = block(-99, -99, "written over")
			}
			if !slices.Equal(earlier, want) || !slices.Equal(impl.Split(s, size), want) {
				t.Fatalf("Split(%s, %d) shares memory with another answer", shortened(s), size)
			}
		}
	}
}
