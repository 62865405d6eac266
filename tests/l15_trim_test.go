package tests

import (
	"math"
	"math/rand"
	"slices"
	"testing"

	"loop.example/g00266/impl"
)

const mostWoven = 200

func isVectorOf(v []int64, limit int64) bool {
	return len(v) >= 1 && len(v) <= 8 && slices.Min(v) >= 0 && slices.Max(v) <= limit
}

// trimOf is told over the rows that are alive, number by number.
func trimOf(rows [][]int64, alive []bool) []int64 {
	if len(rows) == 0 || len(rows[0]) != len(rows) {
		return nil
	}
	return stableOf(rows, alive)
}

func songOf(trim []int64) []int64 {
	if !isVectorOf(trim, lastIndex) || totalOf(trim) > mostWoven {
		return nil
	}
	return weave(trim)
}

// isCovered asks seq by seq, and ends at the first gap.
func isCovered(trim []int64, count int64) bool {
	if !isVectorOf(trim, most) || count < 0 {
		return false
	}
	for seq := range count {
		if !isBelow(trim, seq) {
			return false
		}
	}
	return true
}

// droppedOf adds up, of each sender, how many messages somebody counts beyond the trim.
func droppedOf(rows [][]int64, trim []int64) int64 {
	if !isRows(rows) || !isVectorOf(trim, most) || len(trim) != len(rows[0]) {
		return -1
	}
	dropped := int64(0)
	for k, n := range joinOfAll(rows) {
		dropped += max(0, n-trim[k])
	}
	return dropped
}

func checkTrim(t *testing.T, rows [][]int64, alive []bool) []int64 {
	t.Helper()
	got := impl.Trim(rows, alive)
	if want := trimOf(rows, alive); !slices.Equal(got, want) {
		t.Fatalf("Trim(%v, %v) is %v, not %v", rows, alive, got, want)
	}
	return got
}

func checkSong(t *testing.T, trim []int64) []int64 {
	t.Helper()
	got := impl.Song(trim)
	if want := songOf(trim); !slices.Equal(got, want) {
		t.Fatalf("Song(%s) is %s, not %s", toldList(trim), toldList(got), toldList(want))
	}
	return got
}

func checkCovers(t *testing.T, trim []int64, count int64) {
	t.Helper()
	if want := isCovered(trim, count); impl.Covers(trim, count) != want {
		t.Fatalf("Covers(%s, %d) is %v", toldList(trim), count, !want)
	}
}

func checkDropped(t *testing.T, rows [][]int64, trim []int64) int64 {
	t.Helper()
	got := impl.Dropped(rows, trim)
	if want := droppedOf(rows, trim); got != want {
		t.Fatalf("Dropped(%s, %s) is %d, not %d", toldRows(rows), toldList(trim), got, want)
	}
	return got
}

// checkEnd says it of the count at which the song breaks off: whatever is at most so many is covered, and nothing above.
func checkEnd(t *testing.T, trim []int64, unbroken int64) {
	t.Helper()
	for _, count := range []int64{0, 1, unbroken / 2, unbroken - 1, unbroken} {
		if want := count >= 0 && count <= unbroken; impl.Covers(trim, count) != want {
			t.Fatalf("%v has %d without a gap, but Covers at %d is %v", trim, unbroken, count, !want)
		}
	}
	above := []int64{unbroken + 1, unbroken + 2, unbroken + 8, 8*most + 1, 1 << 32, 1<<32 + unbroken, math.MaxInt64 - 1, math.MaxInt64}
	for _, count := range slices.Concat(above, []int64{-1, -2, -8, -unbroken - 1, math.MinInt64 + unbroken, math.MinInt64}) {
		if impl.Covers(trim, count) {
			t.Fatalf("%v has %d without a gap, but it Covers %d", trim, unbroken, count)
		}
	}
}

// smallSquares have as many numbers as rows, few enough to go through seq by seq.
func smallSquares() [][][]int64 {
	lot := rand.New(rand.NewSource(15))
	out := slices.Concat(allLists(1, allLists[int64](1, 0, 1, 2, 7)...), allLists(2, allLists[int64](2, 0, 1, 2, 5)...))
	for count := 1; count <= mostRows; count++ {
		out = append(out, rowsOf(0, count, count), rowsOf(1, count, count), rowsOf(6, count, count))
		for _, limit := range []int64{1, 2, 3, 5, 12, 20, 25, 40} {
			out = append(out, drawnRows(lot, count, count, limit))
		}
		for range 3 {
			near := rowsOf(9, count, count)
			near[lot.Intn(count)][lot.Intn(count)] = lot.Int63n(19)
			out = append(out, near)
		}
	}
	for i, rows := range out {
		out[i] = copied(rows)
	}
	return out
}

func greatSquares() [][][]int64 {
	lot := rand.New(rand.NewSource(151))
	var out [][][]int64
	for count := 1; count <= mostRows; count++ {
		for _, n := range []int64{lastIndex, lastIndex + 1, most - 1, most} {
			out = append(out, rowsOf(n, count, count))
		}
		for _, limit := range []int64{lastIndex, most, most} {
			out = append(out, drawnRows(lot, count, count, limit))
		}
	}
	return out
}

func squares() [][][]int64 { return slices.Concat(smallSquares(), greatSquares()) }

// smallTrims are all trims of few senders, and drawn ones of many: all of few messages.
func smallTrims() [][]int64 {
	return slices.Concat(smallCounts(), [][]int64{{201}, {100, 101}, {67, 67, 67}, repeated(26, 8), {300, 2, 0}, {0, 300, 300}})
}

func TestTrimsWrittenOut(t *testing.T) {
	rows := [][]int64{{3, 1, 9}, {2, 5, 4}, {0, 6, 7}}
	trims := []struct {
		alive   []bool
		want    []int64
		covers  int64
		dropped int64
	}{
		// The Join of all is 3, 6, 9.
		{[]bool{true, true, true}, []int64{0, 1, 4}, 0, 13},
		{[]bool{true, true, false}, []int64{2, 1, 4}, 4, 11},
		{[]bool{true, false, true}, []int64{0, 1, 7}, 0, 10},
		{[]bool{false, true, true}, []int64{0, 5, 4}, 0, 9},
		{[]bool{true, false, false}, []int64{3, 1, 9}, 4, 5},
		{[]bool{false, true, false}, []int64{2, 5, 4}, 6, 7},
		{[]bool{false, false, true}, []int64{0, 6, 7}, 0, 5},
	}
	for _, c := range trims {
		got := impl.Trim(rows, c.alive)
		if !slices.Equal(got, c.want) || impl.Dropped(rows, got) != c.dropped {
			t.Errorf("Trim(%v, %v) is %v, not %v, Dropped %d, not %d", rows, c.alive, got, c.want, impl.Dropped(rows, got), c.dropped)
		}
		if !impl.Covers(got, c.covers) || impl.Covers(got, c.covers+1) {
			t.Errorf("%v does not just cover %d", got, c.covers)
		}
	}
	for _, alive := range [][]bool{nil, {}, {true}, {true, true}, {true, true, true, true}, {false, false, false}} {
		if got := impl.Trim(rows, alive); len(got) != 0 {
			t.Errorf("Trim(%v, %v) is %v", rows, alive, got)
		}
	}
	if got, want := impl.Song([]int64{2, 1, 4}), []int64{0, 1, 2, 3, 5, 8, 11}; !slices.Equal(got, want) {
		t.Errorf("Song of 2, 1, 4 is %v, not %v", got, want)
	}
}

func TestDroppedWrittenOut(t *testing.T) {
	cases := []struct {
		rows [][]int64
		trim []int64
		want int64
	}{
		{[][]int64{{0}}, []int64{0}, 0},
		{[][]int64{{5}}, []int64{3}, 2},
		{[][]int64{{5}}, []int64{9}, 0},
		{[][]int64{{5}, {8}}, []int64{6}, 2},
		{[][]int64{{3, 2}, {2, 4}}, []int64{2, 2}, 3},
		{[][]int64{{3, 2}, {2, 4}}, []int64{0, 0}, 7},
		{[][]int64{{3, 2}, {2, 4}}, []int64{3, 4}, 0},
		// Above in one number, below in the other: what is above makes up for nothing.
		{[][]int64{{3, 2}, {2, 4}}, []int64{9, 1}, 3},
		{[][]int64{{3, 2}, {2, 4}}, []int64{1, 9}, 2},
		{[][]int64{{3, 2}, {2, 4}}, []int64{3}, -1},
		{[][]int64{{3, 2}, {2, 4}}, []int64{3, 4, 0}, -1},
		{[][]int64{{3, 2}, {2, 4}}, []int64{3, -1}, -1},
		{[][]int64{{3, 2}, {2, 4}}, []int64{3, most + 1}, -1},
		{[][]int64{{3, 2}, {2, 4}}, nil, -1},
		{[][]int64{{1, 2, 3}}, []int64{1, 1, 1}, 3},
		{[][]int64{{most}, {0}}, []int64{0}, most},
		{rowsOf(most, 8, 8), repeated(0, 8), 8 * most},
		{rowsOf(most, 8, 8), repeated(most, 8), 0},
		{rowsOf(0, 8, 8), repeated(most, 8), 0},
	}
	for _, c := range cases {
		if got := impl.Dropped(c.rows, c.trim); got != c.want {
			t.Errorf("Dropped(%v, %v) is %d, not %d", c.rows, c.trim, got, c.want)
		}
	}
}

func TestCoversWrittenOut(t *testing.T) {
	cases := []struct {
		trim     []int64
		unbroken int64
	}{
		{[]int64{0}, 0}, {[]int64{1}, 1}, {[]int64{4}, 4}, {[]int64{most}, most},
		{repeated(0, 8), 0}, {repeated(1, 8), 8}, {repeated(3, 5), 15},
		{[]int64{2, 1, 3}, 4}, {[]int64{0, 2, 2}, 0}, {[]int64{2, 0, 2}, 1}, {[]int64{2, 2, 0}, 2},
		{[]int64{3, 2}, 5}, {[]int64{2, 3}, 4}, {[]int64{0, most}, 0}, {[]int64{most, 0}, 1}, {[]int64{most, 5}, 11},
		{[]int64{0, 0, 0, 0, 0, 0, 0, 2}, 0}, {[]int64{2, 0, 0, 0, 0, 0, 0, 0}, 1}, {[]int64{2, 2, 2, 2, 2, 2, 2, 1}, 15},
		{repeated(lastIndex, 8), 800000}, {repeated(lastIndex+1, 8), 800008}, {[]int64{lastIndex + 1, lastIndex}, 200001},
		{[]int64{most, most - 1}, 2*most - 1}, {[]int64{most - 1, most}, 2*most - 2}, {repeated(most, 8), 8 * most},
	}
	for _, c := range cases {
		checkEnd(t, c.trim, c.unbroken)
	}
}

// Promise 15: Trim is Under each row that is alive; and it is no less than it has to be, for it is Stable.
func TestTrimIsUnderEachRowThatIsAlive(t *testing.T) {
	forAlive(squares(), func(rows [][]int64, alive []bool) {
		trim := checkTrim(t, rows, alive)
		if !isUnderAlive(trim, rows, alive) {
			t.Fatalf("Trim(%v, %v) is %v, which is not Under all that are alive", rows, alive, trim)
		}
		if stable := impl.Stable(rows, alive); len(trim) != len(rows) || !slices.Equal(trim, stable) {
			t.Fatalf("Trim(%v, %v) is %v, Stable is %v", rows, alive, trim, stable)
		}
	})
}

// hadByAlive is how many of the first seqs each row that is alive has without a gap.
func hadByAlive(rows [][]int64, alive []bool) int64 {
	had := int64(math.MaxInt64)
	for i, row := range rows {
		if alive[i] {
			had = min(had, firstGap(row))
		}
	}
	return had
}

// Promise 15: what all that are alive had is covered, and just that.
func TestWhatAllAliveHadIsCovered(t *testing.T) {
	forAlive(smallSquares(), func(rows [][]int64, alive []bool) {
		trim, had := impl.Trim(rows, alive), hadByAlive(rows, alive)
		for count := range had + 1 {
			if !impl.Covers(trim, count) {
				t.Fatalf("all that are alive of %v (%v) had %d, but their Trim %v does not cover %d", rows, alive, had, trim, count)
			}
		}
		if impl.Covers(trim, had+1) {
			t.Fatalf("all that are alive of %v (%v) had %d, but their Trim %v covers one more", rows, alive, had, trim)
		}
	})
}

// Promise 15: also where messages are more than a Song may have, or more than Ready counts.
func TestWhatAllAliveHadIsCoveredOfGreatRows(t *testing.T) {
	for _, rows := range greatSquares() {
		alive := flagsOf(true, len(rows))
		checkEnd(t, impl.Trim(rows, alive), hadByAlive(rows, alive))
	}
}

// playedOnce lets one of the senders say one more, or one of them hear from another one, as far as it said.
func playedOnce(lot *rand.Rand, rows [][]int64) {
	who, from := lot.Intn(len(rows)), lot.Intn(len(rows))
	if lot.Intn(len(rows)) == 0 || who == from {
		rows[who][who]++
		return
	}
	rows[who][from] = max(rows[who][from], lot.Int63n(rows[from][from]+1))
}

// Promise 15: who sang as many as all had is covered, whatever is said and heard behind that and whoever falls.
func TestWhoSangIsCovered(t *testing.T) {
	lot := rand.New(rand.NewSource(152))
	for count := 1; count <= mostRows; count++ {
		for range 40 {
			rows, sung := rowsOf(0, count, count), int64(0)
			for range 60 * count {
				playedOnce(lot, rows)
				if lot.Intn(4) == 0 {
					sung = max(sung, hadByAlive(rows, flagsOf(true, count)))
				}
			}
			for _, alive := range someFlags(count) {
				if trim := checkTrim(t, rows, alive); slices.Contains(alive, true) && !impl.Covers(trim, sung) {
					t.Fatalf("%d were sung, and of %v (%v) Trim is %v", sung, rows, alive, trim)
				}
			}
		}
	}
}

// Rows that grow have a Trim that covers no less, and fewer that are alive do not cover less.
func TestTrimCoversNoLessWhenRowsGrow(t *testing.T) {
	forAlive(smallSquares(), func(rows [][]int64, alive []bool) {
		had := hadByAlive(rows, alive)
		for i, row := range rows {
			grown := copied(rows)
			for k := range row {
				grown[i][k] += int64(k)
			}
			if trim := impl.Trim(grown, alive); !impl.Covers(trim, had) {
				t.Fatalf("of %v (%v) %d were had, but Trim of %v is %v", rows, alive, had, grown, trim)
			}
			fewer := slices.Clone(alive)
			fewer[i] = false
			if trim := impl.Trim(rows, fewer); len(trim) != 0 && !impl.Covers(trim, had) {
				t.Fatalf("of %v (%v) %d were had, but with %v Trim is %v", rows, alive, had, fewer, trim)
			}
		}
	})
}

// The Song of a Trim is Woven of it: each seq is below its sender's trim, and none of those is left out.
func TestSongIsWovenOfTheTrim(t *testing.T) {
	check := func(trim []int64) {
		song := checkSong(t, trim)
		if !slices.Equal(song, impl.Woven(trim)) {
			t.Fatalf("Song(%v) is %v, Woven is %v", trim, song, impl.Woven(trim))
		}
		if totalOf(trim) > mostWoven {
			return
		}
		next := 0
		for seq := range int64(len(trim)) * (slices.Max(trim) + 1) {
			in := next < len(song) && song[next] == seq
			if in != isBelow(trim, seq) {
				t.Fatalf("Song(%v) is %v: it has %d is %v", trim, song, seq, in)
			}
			if in {
				next++
			}
		}
		if next != len(song) {
			t.Fatalf("Song(%v) is %v: only %d are below", trim, song, next)
		}
	}
	for _, trim := range slices.Concat(smallTrims(), manyCounts()) {
		check(trim)
	}
	forAlive(smallSquares(), func(rows [][]int64, alive []bool) { check(impl.Trim(rows, alive)) })
}

// What is covered is sung first: number i of the Song is i below count, as far as it is covered, and no farther.
func TestCoveredAreTheFirstOfTheSong(t *testing.T) {
	for _, trim := range smallCounts() {
		song := impl.Song(trim)
		for count := range int64(len(song)) + 2 {
			want := count <= int64(len(song)) && slices.Equal(song[:count], countedFrom(0, int(count)))
			if impl.Covers(trim, count) != want {
				t.Fatalf("Song(%v) is %v: Covers at %d is %v", trim, song, count, !want)
			}
		}
	}
}

func TestCoversAsReadyTells(t *testing.T) {
	for _, trim := range slices.Concat(smallCounts(), manyCounts()) {
		checkEnd(t, trim, impl.Ready(trim))
	}
}

func TestCoversSeqBySeq(t *testing.T) {
	for _, trim := range smallTrims() {
		for count := int64(-3); count <= 80; count++ {
			checkCovers(t, trim, count)
		}
		checkEnd(t, trim, firstGap(trim))
	}
	for length := 1; length <= 8; length++ {
		for place := range length {
			for _, n := range []int64{0, 1, lastIndex, lastIndex + 1, most - 1, most} {
				trim := repeated(lastIndex+1, length)
				trim[place] = n
				checkEnd(t, trim, firstGap(trim))
			}
		}
	}
}

// One more message of whoever has the first gap covers more; one of anybody else does not.
func TestCoversMoreWhereTheGapIsFilled(t *testing.T) {
	for _, trim := range smallCounts() {
		gap := firstGap(trim)
		for sender := range trim {
			more := slices.Clone(trim)
			more[sender]++
			if want := int64(sender) == gap%int64(len(trim)); impl.Covers(more, gap+1) != want {
				t.Fatalf("%v has its first gap at %d, but Covers(%v, %d) is %v", trim, gap, more, gap+1, !want)
			}
		}
	}
}

// trimsOf are such as are below, above and beside the rows.
func trimsOf(lot *rand.Rand, rows [][]int64) [][]int64 {
	length := len(rows[0])
	join := joinOfAll(rows)
	out := [][]int64{repeated(0, length), repeated(most, length), repeated(3, length), join, rows[0], rows[len(rows)-1]}
	out = append(out, stableOf(rows, flagsOf(true, len(rows))))
	mixed := slices.Clone(join)
	for k := range mixed {
		mixed[k] = min(most, max(0, mixed[k]+lot.Int63n(7)-3))
	}
	return append(out, mixed, drawnRows(lot, 1, length, most)[0])
}

func TestDroppedOfManyRows(t *testing.T) {
	lot := rand.New(rand.NewSource(153))
	for _, rows := range slices.Concat(rightRows(), squares()) {
		for _, trim := range trimsOf(lot, rows) {
			got := checkDropped(t, rows, trim)
			join := joinOfAll(rows)
			if got != impl.Sum(join)-impl.Sum(impl.Meet(join, trim)) || (got == 0) != impl.Under(join, trim) {
				t.Fatalf("Dropped(%v, %v) is %d", rows, trim, got)
			}
		}
	}
}

// Where all rows are Trim itself, nothing is dropped; each message more that one of the rows counts is one more.
func TestDroppedGoesUpByOne(t *testing.T) {
	lot := rand.New(rand.NewSource(154))
	for _, start := range smallSquares() {
		trim := impl.Trim(start, flagsOf(true, len(start)))
		rows := slices.Repeat([][]int64{trim}, len(start))
		if got := impl.Dropped(rows, trim); got != 0 {
			t.Fatalf("all rows are %v, and Dropped is %d", trim, got)
		}
		rows = copied(rows)
		for want := range int64(20) {
			if got := impl.Dropped(rows, trim); got != want {
				t.Fatalf("Dropped(%v, %v) is %d, not %d", rows, trim, got, want)
			}
			k, who := lot.Intn(len(trim)), lot.Intn(len(rows))
			rows[who][k] = joinOfAll(rows)[k] + 1
		}
	}
}

// A message that two rows count is one message; and what a row counts that another one counts already is not dropped again.
func TestDroppedCountsAMessageOnce(t *testing.T) {
	for _, rows := range squares() {
		trim := impl.Trim(rows, flagsOf(true, len(rows)))
		want := impl.Dropped(rows, trim)
		join := joinOfAll(rows)
		for who := range rows {
			more := copied(rows)
			more[who] = join
			if got := impl.Dropped(more, trim); got != want {
				t.Fatalf("Dropped(%v, %v) is %d, not %d as of %v", more, trim, got, want, rows)
			}
		}
		if got := impl.Dropped(slices.Repeat([][]int64{join}, len(rows)), trim); got != want {
			t.Fatalf("all rows are %v: Dropped of %v is %d, not %d", join, trim, got, want)
		}
	}
}

// All that anybody counts are the Song of the Trim and what is dropped.
func TestSongAndDroppedAreAll(t *testing.T) {
	forAlive(smallSquares(), func(rows [][]int64, alive []bool) {
		trim := impl.Trim(rows, alive)
		if totalOf(trim) > mostWoven {
			return
		}
		if all := int64(len(impl.Song(trim))) + impl.Dropped(rows, trim); all != totalOf(joinOfAll(rows)) {
			t.Fatalf("of %v (%v) sung and dropped are %d", rows, alive, all)
		}
	})
}

func TestTrimOfOneAliveAndOfAll(t *testing.T) {
	for _, rows := range squares() {
		all := rows[0]
		for i, row := range rows {
			if got := impl.Trim(rows, flagsBut(false, len(rows), i)); !slices.Equal(got, row) {
				t.Fatalf("of %v row %d alone is alive, and Trim is %v", rows, i, got)
			}
			all = impl.Meet(all, row)
		}
		if got := impl.Trim(rows, flagsOf(true, len(rows))); !slices.Equal(got, all) {
			t.Fatalf("Trim of all of %v is %v, not their Meet %v", rows, got, all)
		}
		if got := impl.Trim(rows, flagsOf(false, len(rows))); len(got) != 0 {
			t.Fatalf("of %v none is alive, and Trim is %v", rows, got)
		}
	}
}

// Promise 21: vectors that are not as long as there are rows have a Stable, but no Trim; they have what is Dropped.
func TestRowsThatAreNotSquare(t *testing.T) {
	for count := 1; count <= mostRows; count++ {
		for length := 1; length <= 8; length++ {
			rows := rowsOf(4, count, length)
			rows[count-1][length-1] = 6
			for _, alive := range allLists(count, false, true) {
				trim, stable := checkTrim(t, rows, alive), impl.Stable(rows, alive)
				if count != length && len(trim) != 0 || count == length && !slices.Equal(trim, stable) {
					t.Fatalf("Trim(%v, %v) is %v, Stable is %v", rows, alive, trim, stable)
				}
			}
			if got := impl.Dropped(rows, repeated(3, length)); got != int64(length)+2 {
				t.Fatalf("Dropped(%v) of threes is %d", rows, got)
			}
		}
	}
}

// Promise 21: fewer and more flags than rows give nothing, whatever they say.
func TestTrimWithFlagsNotAsManyAsRows(t *testing.T) {
	for _, rows := range squares() {
		for count := range 12 {
			if count == len(rows) {
				continue
			}
			for _, alive := range append(someFlags(count), nil) {
				if got := impl.Trim(rows, alive); len(got) != 0 {
					t.Fatalf("Trim(%v, %v) is %v", rows, alive, got)
				}
			}
		}
	}
}

func trimCounts() []int64 {
	return append(ends(), 0, 1, 2, 3, 7, 8, 9, 200, 201, lastIndex, lastSeq, most, 8*most, 8*most+1, 1<<32, 1<<32+1)
}

// checkNoTrim asks also at 0: what is no vector covers nothing, not even no seqs.
func checkNoTrim(t *testing.T, trim []int64) {
	t.Helper()
	if got := impl.Song(trim); len(got) != 0 {
		t.Fatalf("Song(%s) is %s", toldList(trim), toldList(got))
	}
	for _, count := range trimCounts() {
		if impl.Covers(trim, count) {
			t.Fatalf("%s, which is no vector, Covers %d", toldList(trim), count)
		}
	}
	for length := 1; length <= 8; length++ {
		for _, count := range []int{1, length, 8} {
			if got := impl.Dropped(rowsOf(5, count, length), trim); got != -1 {
				t.Fatalf("Dropped of %d rows of %d numbers with %s is %d", count, length, toldList(trim), got)
			}
		}
	}
}

// Promise 21: what is no vector, each wrong number at each place of each length.
func TestTrimsThatAreNoVector(t *testing.T) {
	for _, trim := range noVectors() {
		checkNoTrim(t, trim)
	}
	for length := 1; length <= 8; length++ {
		for place := range length {
			for _, n := range append(ends(), most+1, most+2, 1<<32, 1<<32+3) {
				for _, other := range []int64{0, 2, most} {
					trim := repeated(other, length)
					trim[place] = n
					checkNoTrim(t, trim)
				}
			}
		}
	}
	for _, pair := range allLists[int64](2, math.MinInt64, -1, most+1, math.MaxInt64) {
		checkNoTrim(t, pair)
		checkNoTrim(t, append(repeated(1, 5), pair...))
	}
}

func TestTrimsAtTheLimits(t *testing.T) {
	for length := 0; length <= 10; length++ {
		for _, n := range []int64{-1, 0, 1, lastIndex, lastIndex + 1, most, most + 1} {
			trim := repeated(n, length)
			checkSong(t, trim)
			if length < 1 || length > 8 || n < 0 || n > most {
				checkNoTrim(t, trim)
				continue
			}
			checkEnd(t, trim, n*int64(length))
			for _, rows := range [][][]int64{rowsOf(0, length, length), rowsOf(most, 3, length), rowsOf(7, 1, length)} {
				checkDropped(t, rows, trim)
			}
		}
	}
	for _, trim := range [][]int64{{200}, {201}, repeated(25, 8), append(repeated(25, 7), 26), {0, 200}, {0, 201}} {
		if got := checkSong(t, trim); (len(got) == mostWoven) != (totalOf(trim) == mostWoven) {
			t.Fatalf("Song(%v) has %d", trim, len(got))
		}
	}
}

// Promise 21: a trim of another length than the rows, shorter and longer.
func TestDroppedWithATrimOfAnotherLength(t *testing.T) {
	for count := 1; count <= mostRows; count++ {
		for length := 1; length <= 8; length++ {
			for other := range 12 {
				for _, n := range []int64{0, 4, most} {
					got := checkDropped(t, rowsOf(4, count, length), repeated(n, other))
					if (got == -1) != (other != length) {
						t.Fatalf("Dropped of %d rows of %d numbers, with a trim of %d, is %d", count, length, other, got)
					}
				}
			}
		}
	}
}

// checkNotTrimmed asks with flags and trims that would do for rows that are right.
func checkNotTrimmed(t *testing.T, rows [][]int64) {
	t.Helper()
	flags := append(someFlags(min(len(rows), 10)), nil, flagsOf(true, 1), flagsOf(true, 8), flagsOf(true, len(rows)))
	for _, alive := range flags {
		if got := impl.Trim(rows, alive); len(got) != 0 {
			t.Fatalf("of %s, which are no rows, Trim with %d flags is %v", toldRows(rows), len(alive), got)
		}
	}
	for length := range 10 {
		for _, n := range []int64{0, 1, most} {
			if got := impl.Dropped(rows, repeated(n, length)); got != -1 {
				t.Fatalf("of %s, which are no rows, Dropped with %d times %d is %d", toldRows(rows), length, n, got)
			}
		}
	}
}

// Promise 21: rows that are none, one row or one number alone being wrong, alive or not.
func TestTrimAndDroppedOfNoRows(t *testing.T) {
	for _, rows := range [][][]int64{nil, {}, {nil}, {{}}, {{1}, {1, 2}}, {{1, 2}, {1}}, {{1, 2}, nil}, {nil, {1, 2}}, {{1, 2, 3}, {1, 2, 3}, {1, 2}}} {
		checkNotTrimmed(t, rows)
	}
	for count := 1; count <= 10; count++ {
		for place := range count {
			for _, n := range []int64{math.MinInt64, -1, most + 1, 1 << 32, math.MaxInt64} {
				rows := rowsOf(4, count, count)
				rows[place][count-1-place] = n
				checkNotTrimmed(t, rows)
			}
			for _, bad := range noVectors() {
				rows := rowsOf(2, count, 3)
				rows[place] = bad
				checkNotTrimmed(t, rows)
			}
		}
	}
	for _, size := range [][]int{{9, 9}, {9, 1}, {1, 9}, {9, 8}, {8, 9}, {0, 0}, {3, 0}, {10, 10}} {
		checkNotTrimmed(t, rowsOf(1, size[0], size[1]))
	}
}

// Promise 21: lists that are far too long are refused as any others, also where all of them are as long.
func TestVeryLongTrims(t *testing.T) {
	for _, length := range []int{255, 256, 257, 264, 65537, 100000} {
		for _, n := range []int64{0, 1, most} {
			checkNoTrim(t, repeated(n, length))
		}
		checkNotTrimmed(t, rowsOf(1, length, 1))
		checkNotTrimmed(t, slices.Repeat([][]int64{repeated(1, min(length, 264))}, min(length, 264)))
		checkNotTrimmed(t, slices.Repeat([][]int64{repeated(1, length)}, 8))
		checkNotTrimmed(t, make([][]int64, length))
		if got := impl.Dropped(rowsOf(1, 3, 3), repeated(1, length)); got != -1 {
			t.Fatalf("Dropped with a trim of %d numbers is %d", length, got)
		}
		if got := impl.Trim(rowsOf(1, 8, 8), flagsOf(true, length)); len(got) != 0 {
			t.Fatalf("Trim with %d flags is %v", length, got)
		}
	}
}

func trimCases() [][][]int64 { return slices.Concat(frontierCases(), squares()) }

// trimAnswers are all lists that come of these rows, flags and of this trim; what is told in numbers is asked, too.
func trimAnswers(rows [][]int64, alive []bool, trim []int64) [][]int64 {
	impl.Covers(trim, 3)
	impl.Dropped(rows, trim)
	return [][]int64{impl.Trim(rows, alive), impl.Song(trim)}
}

// forTrimCalls goes through rows with flags and trims, right and wrong ones, each in memory of its own with marked room behind it.
func forTrimCalls(do func(rows [][]int64, alive []bool, trim []int64)) {
	trims := [][]int64{nil, {3}, {2, 1}, {2, 1, 3}, repeated(25, 8), repeated(0, 8), repeated(1, 9), {-1, 2}, {most}, {201}}
	for i, list := range trimCases() {
		for k, flags := range append(someFlags(len(list)), nil, flagsOf(true, 3)) {
			trim := trims[(i+k)%len(trims)]
			if len(list) > 0 && k%2 == 0 {
				trim = list[0]
			}
			do(roomyRows(list, spareMark), roomyWith(flags, true), roomy(trim))
		}
	}
}

// Promise 21: arguments stay, and so does the spare room behind them.
func TestTrimArgumentsStay(t *testing.T) {
	forTrimCalls(func(rows [][]int64, alive []bool, trim []int64) {
		wasRows, wasAlive, wasTrim := wholeHave(rows), whole(alive), whole(trim)
		trimAnswers(rows, alive, trim)
		if !alikeLists(wholeHave(rows), wasRows) || !slices.Equal(whole(alive), wasAlive) || !slices.Equal(whole(trim), wasTrim) {
			t.Fatalf("%v became %v, or %v became %v, or %v became %v", wasRows, wholeHave(rows), wasAlive, whole(alive), wasTrim, whole(trim))
		}
	})
}

// Promise 21: writing over an answer, and the room behind it, changes no argument and no other answer: also where one alone is alive, whose Trim is alike it.
func TestTrimAnswersAreNewMemory(t *testing.T) {
	forTrimCalls(func(rows [][]int64, alive []bool, trim []int64) {
		wasRows, wasTrim := wholeHave(rows), whole(trim)
		earlier := trimAnswers(rows, alive, trim)
		want := copied(earlier)
		for i, answer := range trimAnswers(rows, alive, trim) {
			scribble(answer)
			if !alikeLists(wholeHave(rows), wasRows) || !slices.Equal(whole(trim), wasTrim) {
				t.Fatalf("answer %d shares memory with %v or %v", i, wasRows, wasTrim)
			}
			if !alikeLists(earlier, want) || !alikeLists(trimAnswers(rows, alive, trim), want) {
				t.Fatalf("of %v with %v and %v: answer %d shares memory with another one", wasRows, alive, wasTrim, i)
			}
		}
	})
}

// Promise 21: nor does what is written into the arguments later change an answer.
func TestTrimAnswersStay(t *testing.T) {
	forTrimCalls(func(rows [][]int64, alive []bool, trim []int64) {
		answers := trimAnswers(rows, alive, trim)
		want := copied(answers)
		for _, row := range rows {
			scribble(row)
		}
		scribble(trim)
		for i := range alive {
			alive[i] = !alive[i]
		}
		if !alikeLists(answers, want) {
			t.Fatalf("an answer became %v, it was %v", answers, want)
		}
	})
}

// Promise 21: what lies in the spare room behind rows, numbers, flags and trims is nobody's.
func TestTrimsEndWhereTheyEnd(t *testing.T) {
	for _, mark := range []int64{spareMark, 0, 5, most} {
		for _, list := range trimCases() {
			rows := roomyRows(list, mark)
			for _, flags := range someFlags(len(list)) {
				checkTrim(t, rows, roomyWith(flags, true))
			}
			if len(list) > 0 {
				checkDropped(t, rows, roomyWith(list[0], mark))
			}
		}
		for _, list := range smallTrims() {
			trim := roomyWith(list, mark)
			checkSong(t, trim)
			checkEnd(t, trim, firstGap(list))
		}
	}
}

// A trim may be one of the rows, and rows may share memory with each other: the answers are as those of lists apart.
func TestTrimsThatShareMemory(t *testing.T) {
	base := []int64{4, 1, 7, 0, most, 3, 2, 6, 5, 9, 8, 2, 1, 3, 4}
	was := slices.Clone(base)
	for count := 1; count <= mostRows; count++ {
		var rows [][]int64
		for i := range count {
			rows = append(rows, base[i:i+count])
		}
		for _, alive := range someFlags(count) {
			checkTrim(t, rows, alive)
			checkTrim(t, slices.Repeat(rows[:1], count), alive)
		}
		for _, trim := range rows {
			checkDropped(t, rows, trim)
			checkSong(t, trim)
			checkEnd(t, trim, firstGap(trim))
		}
	}
	if !slices.Equal(base, was) {
		t.Fatalf("%v became %v", was, base)
	}
}
