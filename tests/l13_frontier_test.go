package tests

import (
	"fmt"
	"math"
	"math/rand"
	"slices"
	"testing"

	"loop.example/g00266/impl"
)

const mostRows = 8

// isRows is what the document asks of rows, word by word.
func isRows(rows [][]int64) bool {
	if len(rows) < 1 || len(rows) > mostRows {
		return false
	}
	for _, row := range rows {
		if len(row) < 1 || len(row) > 8 || len(row) != len(rows[0]) {
			return false
		}
		for _, n := range row {
			if n < 0 || n > 1000000 {
				return false
			}
		}
	}
	return true
}

// stableOf goes number by number, not row by row.
func stableOf(rows [][]int64, alive []bool) []int64 {
	if !isRows(rows) || len(alive) != len(rows) || !slices.Contains(alive, true) {
		return nil
	}
	var out []int64
	for k := range rows[0] {
		end := int64(math.MaxInt64)
		for i, row := range rows {
			if alive[i] && row[k] < end {
				end = row[k]
			}
		}
		out = append(out, end)
	}
	return out
}

func columnOf(rows [][]int64, k int64) []int64 {
	if !isRows(rows) || k < 0 || k >= int64(len(rows[0])) {
		return nil
	}
	var out []int64
	for _, row := range rows {
		out = append(out, row[k])
	}
	return out
}

// lagOf adds up how far the row is behind in each number.
func lagOf(rows [][]int64, who int64) int64 {
	if !isRows(rows) || who < 0 || who >= int64(len(rows)) {
		return -1
	}
	lag := int64(0)
	for k, n := range rows[who] {
		lag += slices.Max(columnOf(rows, int64(k))) - n
	}
	return lag
}

func toldRows(rows [][]int64) string { return shortened(fmt.Sprint(rows)) }

func checkStable(t *testing.T, rows [][]int64, alive []bool) []int64 {
	t.Helper()
	got := impl.Stable(rows, alive)
	if want := stableOf(rows, alive); !slices.Equal(got, want) {
		t.Fatalf("Stable(%v, %v) is %v, not %v", rows, alive, got, want)
	}
	return got
}

func checkColumn(t *testing.T, rows [][]int64, k int64) {
	t.Helper()
	if got, want := impl.Column(rows, k), columnOf(rows, k); !slices.Equal(got, want) {
		t.Fatalf("Column(%v, %d) is %v, not %v", rows, k, got, want)
	}
}

func checkLag(t *testing.T, rows [][]int64, who int64) {
	t.Helper()
	if got, want := impl.Lag(rows, who), lagOf(rows, who); got != want {
		t.Fatalf("Lag(%v, %d) is %d, not %d", rows, who, got, want)
	}
}

// checkRows asks each function, of each row and each number, one below and one above.
func checkRows(t *testing.T, rows [][]int64) {
	t.Helper()
	if ok := isRows(rows); impl.RowsOk(rows) != ok {
		t.Fatalf("RowsOk(%v) is %v", rows, !ok)
	}
	for i := int64(-1); i <= 9; i++ {
		checkColumn(t, rows, i)
		checkLag(t, rows, i)
	}
	for _, alive := range someFlags(len(rows)) {
		checkStable(t, rows, alive)
	}
}

func flagsOf(flag bool, count int) []bool { return slices.Repeat([]bool{flag}, count) }

func flagsBut(flag bool, count, place int) []bool {
	out := flagsOf(flag, count)
	out[place] = !flag
	return out
}

// someFlags are all alive, none, each one alone and all but each one.
func someFlags(count int) [][]bool {
	out := [][]bool{flagsOf(true, count), flagsOf(false, count)}
	for place := range count {
		out = append(out, flagsBut(false, count, place), flagsBut(true, count, place))
	}
	return out
}

func rowsOf(n int64, rows, length int) [][]int64 {
	out := make([][]int64, rows)
	for i := range out {
		out[i] = repeated(n, length)
	}
	return out
}

func drawnRows(lot *rand.Rand, rows, length int, limit int64) [][]int64 {
	out := rowsOf(0, rows, length)
	for _, row := range out {
		for k := range row {
			row[k] = lot.Int63n(limit + 1)
		}
	}
	return out
}

// smallRows are all of at most three rows out of a few numbers.
func smallRows() [][][]int64 {
	var out [][][]int64
	for rows := 1; rows <= 3; rows++ {
		out = append(out, allLists(rows, allLists[int64](1, 0, 1, 2, most)...)...)
		out = append(out, allLists(rows, allLists[int64](2, 0, 1, most)...)...)
	}
	return append(out, allLists(2, allLists[int64](3, 0, 2, most)...)...)
}

// manyRows are of each count of rows and of numbers: all alike, one apart, and drawn.
func manyRows() [][][]int64 {
	lot := rand.New(rand.NewSource(13))
	var out [][][]int64
	for rows := 1; rows <= mostRows; rows++ {
		for length := 1; length <= 8; length++ {
			for _, n := range []int64{0, 1, most - 1, most} {
				out = append(out, rowsOf(n, rows, length))
			}
			for _, limit := range []int64{1, 3, 50, most, most} {
				out = append(out, drawnRows(lot, rows, length, limit))
			}
			apart := rowsOf(7, rows, length)
			apart[lot.Intn(rows)][lot.Intn(length)] = lot.Int63n(15)
			out = append(out, apart)
		}
	}
	return out
}

// rightRows share no memory with each other, so a test may write into them.
func rightRows() [][][]int64 {
	out := slices.Concat(smallRows(), manyRows())
	for i, rows := range out {
		out[i] = copied(rows)
	}
	return out
}

func TestFrontiersWrittenOut(t *testing.T) {
	rows := [][]int64{{3, 1, 9}, {2, 5, 4}, {0, 6, 7}}
	if !impl.RowsOk(rows) {
		t.Fatalf("RowsOk(%v) is false", rows)
	}
	stables := []struct {
		alive []bool
		want  []int64
	}{
		{[]bool{true, true, true}, []int64{0, 1, 4}},
		{[]bool{true, true, false}, []int64{2, 1, 4}},
		{[]bool{true, false, true}, []int64{0, 1, 7}},
		{[]bool{false, true, true}, []int64{0, 5, 4}},
		{[]bool{true, false, false}, []int64{3, 1, 9}},
		{[]bool{false, true, false}, []int64{2, 5, 4}},
		{[]bool{false, false, true}, []int64{0, 6, 7}},
		{[]bool{false, false, false}, nil},
		{[]bool{true, true}, nil},
		{[]bool{true, true, true, true}, nil},
		{nil, nil},
	}
	for _, c := range stables {
		if got := impl.Stable(rows, c.alive); !slices.Equal(got, c.want) {
			t.Errorf("Stable(%v, %v) is %v, not %v", rows, c.alive, got, c.want)
		}
	}
	columns := [][]int64{{3, 2, 0}, {1, 5, 6}, {9, 4, 7}, nil}
	for k, want := range columns {
		if got := impl.Column(rows, int64(k)); !slices.Equal(got, want) {
			t.Errorf("Column(%v, %d) is %v, not %v", rows, k, got, want)
		}
	}
	// The Join of all is 3, 6, 9: in all 18.
	for who, want := range []int64{5, 7, 5, -1} {
		if got := impl.Lag(rows, int64(who)); got != want {
			t.Errorf("Lag(%v, %d) is %d, not %d", rows, who, got, want)
		}
	}
	if got := impl.Column(rows, -1); len(got) != 0 || impl.Lag(rows, -1) != -1 {
		t.Errorf("at -1: Column %v, Lag %d", got, impl.Lag(rows, -1))
	}
}

func TestRightRows(t *testing.T) {
	for _, rows := range rightRows() {
		if !impl.RowsOk(rows) {
			t.Fatalf("RowsOk(%v) is false", rows)
		}
		checkRows(t, rows)
	}
}

// forAlive goes through rows with all flags of which at least one is true.
func forAlive(all [][][]int64, do func(rows [][]int64, alive []bool)) {
	for _, rows := range all {
		for _, alive := range allLists(len(rows), false, true) {
			if slices.Contains(alive, true) {
				do(rows, alive)
			}
		}
	}
}

// isUnderAlive asks each row that is alive, and no other one.
func isUnderAlive(v []int64, rows [][]int64, alive []bool) bool {
	for i, row := range rows {
		if alive[i] && !impl.Under(v, row) {
			return false
		}
	}
	return true
}

// Promise 13: Stable is below all that are alive, and nothing that is below all of them is above it.
func TestStableIsTheGreatestBelowAllAlive(t *testing.T) {
	forAlive(rightRows(), func(rows [][]int64, alive []bool) {
		stable := checkStable(t, rows, alive)
		if !isUnderAlive(stable, rows, alive) {
			t.Fatalf("Stable(%v, %v) is %v, which is not Under all that are alive", rows, alive, stable)
		}
		for k := range stable {
			more := slices.Clone(stable)
			more[k]++
			if isUnderAlive(more, rows, alive) {
				t.Fatalf("Stable(%v, %v) is %v, but %v is Under all that are alive, too", rows, alive, stable, more)
			}
		}
	})
}

// Promise 13: of all small vectors, those that are Under each row that is alive are Under Stable, and no others.
func TestWhatIsUnderAllAliveIsUnderStable(t *testing.T) {
	forAlive(smallRows(), func(rows [][]int64, alive []bool) {
		stable := impl.Stable(rows, alive)
		for _, v := range allLists[int64](len(rows[0]), 0, 1, 2, most-1, most) {
			if want := isUnderAlive(v, rows, alive); impl.Under(v, stable) != want {
				t.Fatalf("Stable(%v, %v) is %v: %v Under it is %v", rows, alive, stable, v, !want)
			}
		}
	})
}

// Promise 13: with a row that grows Stable is not less; with one that is not alive it is the same.
func TestStableGrowsWithItsRows(t *testing.T) {
	forAlive(rightRows(), func(rows [][]int64, alive []bool) {
		before := impl.Stable(rows, alive)
		grown := copied(rows)
		for i, row := range rows {
			for k, n := range row {
				for _, more := range []int64{n + 1, most} {
					grown[i][k] = min(more, most)
					after := impl.Stable(grown, alive)
					if !impl.Under(before, after) || !alive[i] && !slices.Equal(before, after) {
						t.Fatalf("of %v with %v Stable is %v, of %v it is %v", rows, alive, before, grown, after)
					}
				}
				grown[i][k] = n
			}
		}
	})
}

// Promise 13: when all that are alive grow beyond a number, so does Stable.
func TestStableGrowsWhenAllGrow(t *testing.T) {
	forAlive(rightRows(), func(rows [][]int64, alive []bool) {
		before := impl.Stable(rows, alive)
		for k, n := range before {
			if n == most {
				continue
			}
			grown := copied(rows)
			for i := range grown {
				if alive[i] {
					grown[i][k] = max(grown[i][k], n+1)
				}
			}
			if after := impl.Stable(grown, alive); !impl.Under(before, after) || after[k] != n+1 {
				t.Fatalf("of %v with %v Stable is %v, of %v it is %v", rows, alive, before, grown, after)
			}
		}
	})
}

// Promise 13: with more that are alive Stable is not more: it is the Meet with the one that comes.
func TestStableWithMoreAlive(t *testing.T) {
	forAlive(rightRows(), func(rows [][]int64, alive []bool) {
		fewer := impl.Stable(rows, alive)
		for i, row := range rows {
			with := slices.Clone(alive)
			with[i] = true
			more := impl.Stable(rows, with)
			if !impl.Under(more, fewer) || !slices.Equal(more, impl.Meet(fewer, row)) {
				t.Fatalf("of %v: Stable with %v is %v, with %v it is %v", rows, alive, fewer, with, more)
			}
		}
	})
}

// A row that is not alive may become any other one, the least and the greatest among them, or go away with its flag.
func TestRowsNotAliveChangeNothing(t *testing.T) {
	forAlive(rightRows(), func(rows [][]int64, alive []bool) {
		want := impl.Stable(rows, alive)
		var left [][]int64
		for i, row := range rows {
			if alive[i] {
				left = append(left, row)
			}
		}
		if got := impl.Stable(left, flagsOf(true, len(left))); !slices.Equal(got, want) {
			t.Fatalf("Stable(%v, %v) is %v, of those that are alive alone it is %v", rows, alive, want, got)
		}
		for _, n := range []int64{0, 3, most} {
			others := copied(rows)
			for i := range others {
				if !alive[i] {
					others[i] = repeated(n, len(rows[0]))
				}
			}
			if got := impl.Stable(others, alive); !slices.Equal(got, want) {
				t.Fatalf("with %v Stable of %v is %v, but of %v it is %v", alive, rows, want, others, got)
			}
		}
	})
}

func TestStableOfOneAliveAndOfAll(t *testing.T) {
	for _, rows := range rightRows() {
		all := rows[0]
		for i, row := range rows {
			if got := impl.Stable(rows, flagsBut(false, len(rows), i)); !slices.Equal(got, row) {
				t.Fatalf("of %v row %d alone is alive, and Stable is %v", rows, i, got)
			}
			all = impl.Meet(all, row)
		}
		if got := impl.Stable(rows, flagsOf(true, len(rows))); !slices.Equal(got, all) {
			t.Fatalf("Stable of all of %v is %v, not their Meet %v", rows, got, all)
		}
	}
}

// In whatever order the rows stand with their flags, Stable is the same.
func TestStableInWhateverOrder(t *testing.T) {
	lot := rand.New(rand.NewSource(131))
	forAlive(manyRows(), func(rows [][]int64, alive []bool) {
		want := impl.Stable(rows, alive)
		other, flags := copied(rows), slices.Clone(alive)
		lot.Shuffle(len(other), func(i, k int) {
			other[i], other[k] = other[k], other[i]
			flags[i], flags[k] = flags[k], flags[i]
		})
		if got := impl.Stable(other, flags); !slices.Equal(got, want) {
			t.Fatalf("Stable(%v, %v) is %v, Stable(%v, %v) is %v", rows, alive, want, other, flags, got)
		}
	})
}

// The columns of the columns are the rows.
func TestColumnsTellAllNumbers(t *testing.T) {
	for _, rows := range rightRows() {
		var columns [][]int64
		for k := range rows[0] {
			columns = append(columns, impl.Column(rows, int64(k)))
		}
		for i, row := range rows {
			if got := impl.Column(columns, int64(i)); !slices.Equal(got, row) {
				t.Fatalf("of %v the columns are %v: row %d is %v", rows, columns, i, got)
			}
		}
	}
}

func joinOfAll(rows [][]int64) []int64 {
	out := slices.Clone(rows[0])
	for _, row := range rows {
		for k, n := range row {
			out[k] = max(out[k], n)
		}
	}
	return out
}

// A Lag is never below 0, and 0 is that of the Join of all alone.
func TestLagOfTheJoinOfAll(t *testing.T) {
	for _, rows := range rightRows() {
		join := joinOfAll(rows)
		for i, row := range rows {
			lag := impl.Lag(rows, int64(i))
			if lag < 0 || (lag == 0) != slices.Equal(row, join) {
				t.Fatalf("Lag(%v, %d) is %d", rows, i, lag)
			}
			ahead := copied(rows)
			ahead[i] = join
			if got := impl.Lag(ahead, int64(i)); got != 0 {
				t.Fatalf("Lag(%v, %d) is %d, but it is the Join of all", ahead, i, got)
			}
		}
		if len(rows) == mostRows {
			continue
		}
		longer := append(copied(rows), join)
		for i := range rows {
			if got, want := impl.Lag(longer, int64(i)), impl.Lag(rows, int64(i)); got != want {
				t.Fatalf("with the Join of all behind %v the Lag of row %d is %d, not %d", rows, i, got, want)
			}
		}
	}
}

// A row that catches up by one in a number has a Lag that is 1 less; all others keep theirs.
func TestLagOfARowThatCatchesUp(t *testing.T) {
	for _, rows := range rightRows() {
		join := joinOfAll(rows)
		for i, row := range rows {
			for k := range row {
				if row[k] == join[k] {
					continue
				}
				nearer := copied(rows)
				nearer[i][k]++
				for other := range rows {
					want := impl.Lag(rows, int64(other))
					if other == i {
						want--
					}
					if got := impl.Lag(nearer, int64(other)); got != want {
						t.Fatalf("Lag(%v, %d) is %d, not %d", nearer, other, got, want)
					}
				}
			}
		}
	}
}

func TestLagOfRowsFarBehind(t *testing.T) {
	for rows := 2; rows <= mostRows; rows++ {
		for length := 1; length <= 8; length++ {
			for first := range rows {
				list := rowsOf(0, rows, length)
				list[first] = repeated(most, length)
				for who := range rows {
					want := int64(length) * most
					if who == first {
						want = 0
					}
					if got := impl.Lag(list, int64(who)); got != want {
						t.Fatalf("Lag(%v, %d) is %d, not %d", list, who, got, want)
					}
				}
			}
		}
	}
	// Each row is ahead of all others in one number: no row is the Join of all, and each has the sum of the others' numbers to go.
	for count := 1; count <= mostRows; count++ {
		list := rowsOf(0, count, count)
		for i := range list {
			list[i][i] = most
		}
		for who := range list {
			if got, want := impl.Lag(list, int64(who)), int64(count-1)*most; got != want {
				t.Fatalf("Lag(%v, %d) is %d, not %d", list, who, got, want)
			}
		}
	}
}

// checkNoRows asks far more flags and places than the rows would have, and tells of long lists in short.
func checkNoRows(t *testing.T, rows [][]int64) {
	t.Helper()
	if impl.RowsOk(rows) {
		t.Fatalf("RowsOk(%s) is true", toldRows(rows))
	}
	for _, i := range frontierNumbers() {
		if column, lag := impl.Column(rows, i), impl.Lag(rows, i); len(column) != 0 || lag != -1 {
			t.Fatalf("of %s, which are no rows, at %d: Column %v, Lag %d", toldRows(rows), i, column, lag)
		}
	}
	flags := append(someFlags(min(len(rows), 10)), nil, flagsOf(true, 1), flagsOf(true, 8), flagsOf(true, len(rows)))
	for _, alive := range flags {
		if got := impl.Stable(rows, alive); len(got) != 0 {
			t.Fatalf("of %s, which are no rows, Stable with %d flags is %v", toldRows(rows), len(alive), got)
		}
	}
}

// frontierNumbers are those of rows and of numbers in a row, and such as are out of range everywhere.
func frontierNumbers() []int64 {
	return append(ends(), 0, 1, 2, 3, 4, 5, 6, 7, 8, 9, 100, 1<<32, 1<<32+1, most)
}

func TestRowsAtTheLimits(t *testing.T) {
	for count := 0; count <= 10; count++ {
		for length := 0; length <= 10; length++ {
			for _, n := range []int64{-1, 0, 1, most, most + 1} {
				rows := rowsOf(n, count, length)
				want := count >= 1 && count <= 8 && length >= 1 && length <= 8 && n >= 0 && n <= most
				if impl.RowsOk(rows) != want {
					t.Fatalf("RowsOk(%v) is %v", rows, !want)
				}
				checkRows(t, rows)
				if !want {
					checkNoRows(t, rows)
				}
			}
		}
	}
	checkNoRows(t, nil)
	checkNoRows(t, [][]int64{nil})
}

// Promise 21: one row that is no vector spoils all, wherever it stands, and whether it is alive or not.
func TestRowsWithOneThatIsNoVector(t *testing.T) {
	for count := 1; count <= mostRows; count++ {
		for place := range count {
			for _, bad := range noVectors() {
				rows := rowsOf(2, count, 3)
				rows[place] = bad
				checkNoRows(t, rows)
			}
		}
	}
}

// Promise 21: each wrong number is tried at each place of each row, beside rows that are right.
func TestRowsWithOneWrongNumber(t *testing.T) {
	for _, size := range [][]int{{1, 1}, {1, 8}, {2, 3}, {3, 2}, {8, 1}, {8, 8}} {
		for place := range size[0] {
			for k := range size[1] {
				for _, n := range []int64{math.MinInt64, -most, -1, most + 1, 1 << 32, math.MaxInt64} {
					rows := rowsOf(4, size[0], size[1])
					rows[place][k] = n
					checkNoRows(t, rows)
				}
			}
		}
	}
}

func TestRowsOfUnlikeLengths(t *testing.T) {
	for count := 2; count <= mostRows; count++ {
		for place := range count {
			for length := 1; length <= 8; length++ {
				for _, other := range []int{0, 1, length - 1, length + 1, 8} {
					if other == length {
						continue
					}
					rows := rowsOf(1, count, length)
					rows[place] = repeated(1, other)
					checkNoRows(t, rows)
				}
			}
		}
	}
	checkNoRows(t, [][]int64{{1}, {1, 2}, {1, 2, 3}, {1, 2, 3, 4}})
	checkNoRows(t, [][]int64{{1, 2, 3}, {1, 2}, {1}})
}

// Promise 21: fewer and more flags than rows give nothing, whatever they say.
func TestFlagsNotAsManyAsRows(t *testing.T) {
	for _, rows := range manyRows() {
		for count := range 12 {
			if count == len(rows) {
				continue
			}
			for _, alive := range someFlags(count) {
				if got := impl.Stable(rows, alive); len(got) != 0 {
					t.Fatalf("Stable(%v, %v) is %v", rows, alive, got)
				}
			}
		}
		for _, alive := range [][]bool{nil, {}, flagsOf(false, len(rows))} {
			if got := impl.Stable(rows, alive); len(got) != 0 {
				t.Fatalf("Stable(%v, %v) is %v", rows, alive, got)
			}
		}
	}
}

// Promise 21: the greatest and the least numbers as a place.
func TestFrontierPlacesAtTheEnds(t *testing.T) {
	for _, rows := range manyRows() {
		for _, i := range frontierNumbers() {
			checkColumn(t, rows, i)
			checkLag(t, rows, i)
		}
		for _, i := range ends() {
			if column, lag := impl.Column(rows, i), impl.Lag(rows, i); len(column) != 0 || lag != -1 {
				t.Fatalf("of %v at %d: Column %v, Lag %d", rows, i, column, lag)
			}
		}
	}
}

// Promise 21: lists that are far too long are refused as any others, also where as many flags come with them.
func TestVeryLongRowsAndFlags(t *testing.T) {
	for _, count := range []int{255, 256, 257, 264, 65537, 100000} {
		checkNoRows(t, rowsOf(1, count, 1))
		checkNoRows(t, slices.Repeat([][]int64{repeated(1, 8)}, count))
		checkNoRows(t, make([][]int64, count))
		if got := impl.Stable(rowsOf(1, 8, 8), flagsOf(true, count)); len(got) != 0 {
			t.Fatalf("Stable with %d flags is %v", count, got)
		}
	}
	for _, length := range []int{256, 257, 100000} {
		for place := range 3 {
			rows := rowsOf(1, 3, 1)
			rows[place] = repeated(1, length)
			checkNoRows(t, rows)
		}
		checkNoRows(t, slices.Repeat([][]int64{repeated(1, length)}, 8))
	}
}

func roomyRows(rows [][]int64, mark int64) [][]int64 {
	out := make([][]int64, 0, len(rows))
	for _, row := range rows {
		out = append(out, roomyWith(row, mark))
	}
	return roomyWith(out, roomyWith([]int64{5, 6}, mark))
}

func frontierCases() [][][]int64 {
	wrong := [][][]int64{
		nil, {nil}, {{}}, {{-1}}, {{most + 1}}, {{1}, {1, 2}}, {{1, 2}, {3}}, {{1, 2}, nil}, {{math.MinInt64, math.MaxInt64}},
		rowsOf(1, 9, 2), rowsOf(1, 2, 9), {{3, 1}, {2, -1}}, {{3, 1}, {2, most + 1}, {0, 0}},
	}
	return slices.Concat(manyRows(), wrong)
}

// frontierAnswers are all lists that come of these rows and flags.
func frontierAnswers(rows [][]int64, alive []bool) [][]int64 {
	out := [][]int64{impl.Stable(rows, alive)}
	for k := int64(-1); k <= 8; k++ {
		out = append(out, impl.Column(rows, k))
		impl.Lag(rows, k)
	}
	impl.RowsOk(rows)
	return out
}

// Promise 21: arguments stay, and so does the spare room behind them.
func TestFrontierArgumentsStay(t *testing.T) {
	for _, list := range frontierCases() {
		for _, flags := range append(someFlags(len(list)), nil, flagsOf(true, 3)) {
			rows, alive := roomyRows(list, spareMark), roomyWith(flags, true)
			wasRows, wasAlive := wholeHave(rows), whole(alive)
			frontierAnswers(rows, alive)
			if !alikeLists(wholeHave(rows), wasRows) || !slices.Equal(whole(alive), wasAlive) {
				t.Fatalf("%v became %v, or %v became %v", wasRows, wholeHave(rows), wasAlive, whole(alive))
			}
		}
	}
}

// Promise 21: what lies in the spare room behind rows, numbers and flags is nobody's.
func TestRowsEndWhereTheyEnd(t *testing.T) {
	for _, list := range frontierCases() {
		for _, mark := range []int64{spareMark, 0, most, math.MaxInt64} {
			rows := roomyRows(list, mark)
			checkRows(t, rows)
			for _, flag := range []bool{false, true} {
				for _, flags := range append(someFlags(len(list)), nil, flagsOf(true, 3)) {
					checkStable(t, rows, roomyWith(flags, flag))
				}
			}
		}
	}
}

// Promise 21: writing over an answer, and the room behind it, changes no argument and no other answer: also where one alone is alive, whose Stable is alike it.
func TestFrontierAnswersAreNewMemory(t *testing.T) {
	for _, list := range frontierCases() {
		for _, alive := range someFlags(len(list)) {
			rows := roomyRows(list, spareMark)
			was := wholeHave(rows)
			earlier := frontierAnswers(rows, alive)
			want := copied(earlier)
			for i, answer := range frontierAnswers(rows, alive) {
				scribble(answer)
				if !alikeLists(wholeHave(rows), was) {
					t.Fatalf("answer %d shares memory with %v", i, was)
				}
				if !alikeLists(earlier, want) || !alikeLists(frontierAnswers(rows, alive), want) {
					t.Fatalf("of %v with %v: answer %d shares memory with another one", was, alive, i)
				}
			}
		}
	}
}

// Promise 21: nor does what is written into the rows and flags later change an answer.
func TestFrontierAnswersStay(t *testing.T) {
	for _, rows := range rightRows() {
		for _, alive := range someFlags(len(rows)) {
			mine := roomyRows(rows, spareMark)
			answers := frontierAnswers(mine, alive)
			want := copied(answers)
			for i := range mine {
				scribble(mine[i])
				alive[i] = !alive[i]
			}
			if !alikeLists(answers, want) {
				t.Fatalf("what came of %v shares memory with it", rows)
			}
		}
	}
}

// Rows may share memory with each other; the answers are as those of rows apart.
func TestRowsThatShareMemory(t *testing.T) {
	base := []int64{4, 1, 7, 0, most, 3, 2, 6, 5, 9}
	for count := 1; count <= 8; count++ {
		for length := 1; length <= min(8, len(base)-count+1); length++ {
			var rows [][]int64
			for i := range count {
				rows = append(rows, base[i:i+length])
			}
			checkRows(t, rows)
			checkRows(t, slices.Repeat([][]int64{base[:length]}, count))
		}
	}
	if want := []int64{4, 1, 7, 0, most, 3, 2, 6, 5, 9}; !slices.Equal(base, want) {
		t.Fatalf("%v became %v", want, base)
	}
}
