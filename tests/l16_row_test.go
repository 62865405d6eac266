package tests

import (
	"fmt"
	"math"
	"math/rand"
	"slices"
	"strings"
	"testing"

	"loop.example/g00266/impl"
)

const (
	mostSaid    = 12
	longestSaid = 20
	mostGot     = 12
	lastRow     = 5
)

func alikeRow(a, b impl.Row) bool {
	return a.Ver == b.Ver && slices.Equal(a.Texts, b.Texts) && slices.Equal(a.Got, b.Got) && slices.Equal(a.Suspects, b.Suspects) &&
		a.Wedged == b.Wedged && a.Ready == b.Ready && a.By == b.By && slices.Equal(a.Trim, b.Trim)
}

func isZeroRow(r impl.Row) bool { return alikeRow(r, impl.Row{}) }

func copiedRow(r impl.Row) impl.Row {
	r.Texts, r.Got = slices.Clone(r.Texts), slices.Clone(r.Got)
	r.Suspects, r.Trim = slices.Clone(r.Suspects), slices.Clone(r.Trim)
	return r
}

func toldRow(r impl.Row) string { return shortened(fmt.Sprintf("%+v", r)) }

// changed is a copy with the change, in memory of its own.
func changed(r impl.Row, change func(r *impl.Row)) impl.Row {
	out := copiedRow(r)
	change(&out)
	return out
}

// isRowVector is a vector of so many numbers, of at most 12 each.
func isRowVector(v []int64, n int64) bool { return int64(len(v)) == n && isVectorOf(v, 12) }

// isRow is what the document asks of a Row with n numbers, word by word.
func isRow(r impl.Row, n int64) bool {
	if n < 1 || n > 5 || r.Ver < 0 || r.Ver > 1000000 || len(r.Texts) > 12 || !isRowVector(r.Got, n) {
		return false
	}
	for _, text := range r.Texts {
		if len(text) > 20 {
			return false
		}
	}
	for i, who := range r.Suspects {
		if who < 0 || who > 7 || who >= n || i > 0 && who <= r.Suspects[i-1] {
			return false
		}
	}
	if r.Ready {
		return r.Wedged && r.By >= 0 && r.By <= 7 && r.By < n && isRowVector(r.Trim, n)
	}
	return r.By == 0 && len(r.Trim) == 0
}

// isFollowed is what the document asks of Follows, one question behind the other.
func isFollowed(a, b impl.Row, n int64) bool {
	if !isRow(a, n) || !isRow(b, n) || b.Ver < a.Ver || len(b.Texts) < len(a.Texts) {
		return false
	}
	for i, text := range a.Texts {
		if b.Texts[i] != text {
			return false
		}
	}
	for k, count := range a.Got {
		if count > b.Got[k] {
			return false
		}
	}
	for _, who := range a.Suspects {
		if !slices.Contains(b.Suspects, who) {
			return false
		}
	}
	if a.Wedged && !b.Wedged || a.Ready && !b.Ready {
		return false
	}
	return !a.Ready || b.By >= a.By
}

func checkRowOk(t *testing.T, r impl.Row, n int64) bool {
	t.Helper()
	got := impl.RowOk(r, n)
	if got != isRow(r, n) {
		t.Fatalf("RowOk(%s, %d) is %v", toldRow(r), n, got)
	}
	return got
}

func checkFollows(t *testing.T, a, b impl.Row, n int64) bool {
	t.Helper()
	got := impl.Follows(a, b, n)
	if got != isFollowed(a, b, n) {
		t.Fatalf("Follows(%s, %s, %d) is %v", toldRow(a), toldRow(b), n, got)
	}
	return got
}

// checkLater asks both ways.
func checkLater(t *testing.T, a, b impl.Row) {
	t.Helper()
	if impl.Later(a, b) != (a.Ver > b.Ver) || impl.Later(b, a) != (b.Ver > a.Ver) {
		t.Fatalf("Later of Ver %d and %d is %v, the other way %v", a.Ver, b.Ver, impl.Later(a, b), impl.Later(b, a))
	}
}

// midRow is Ready and has room on both sides of whatever can grow, as far as n leaves any.
func midRow(n int64) impl.Row {
	return impl.Row{
		Ver: 7, Texts: []string{"a", "", "bc", "a"}, Got: repeated(3, int(n)), Suspects: countedFrom(n/2, int(n-n/2)),
		Wedged: true, Ready: true, By: n / 2, Trim: repeated(2, int(n)),
	}
}

// unready is Wedged, and all else is kept.
func unready(r impl.Row) impl.Row {
	return changed(r, func(r *impl.Row) { r.Ready, r.By, r.Trim = false, 0, nil })
}

func unwedged(r impl.Row) impl.Row {
	return changed(unready(r), func(r *impl.Row) { r.Wedged = false })
}

// fullRow is at each upper limit.
func fullRow(n int64) impl.Row {
	return impl.Row{
		Ver: most, Texts: slices.Repeat([]string{strings.Repeat("x", longestSaid)}, mostSaid), Got: repeated(mostGot, int(n)),
		Suspects: firstNumbers(n), Wedged: true, Ready: true, By: n - 1, Trim: repeated(mostGot, int(n)),
	}
}

// bareRow is at each lower limit, and Ready.
func bareRow(n int64) impl.Row {
	return impl.Row{Got: repeated(0, int(n)), Wedged: true, Ready: true, Trim: repeated(0, int(n))}
}

func drawnCounts(lot *rand.Rand, n int64) []int64 {
	out := []int64{}
	for range n {
		out = append(out, lot.Int63n(mostGot+1))
	}
	return out
}

func drawnRow(lot *rand.Rand, n int64) impl.Row {
	r := impl.Row{Ver: lot.Int63n(most + 1), Got: drawnCounts(lot, n), Wedged: lot.Intn(2) == 0}
	for range lot.Intn(mostSaid + 1) {
		r.Texts = append(r.Texts, drawnText(lot, lot.Intn(longestSaid+1)))
	}
	for who := range n {
		if lot.Intn(2) == 0 {
			r.Suspects = append(r.Suspects, who)
		}
	}
	if r.Wedged && lot.Intn(2) == 0 {
		r.Ready, r.By, r.Trim = true, lot.Int63n(n), drawnCounts(lot, n)
	}
	return r
}

// sureRows are right ones of n, each standing among them, at both limits, in the middle, and drawn.
func sureRows(n int64) []impl.Row {
	lot := rand.New(rand.NewSource(160 + n))
	out := []impl.Row{{Got: repeated(0, int(n))}}
	for _, r := range []impl.Row{midRow(n), fullRow(n), bareRow(n)} {
		out = append(out, r, unready(r), unwedged(r))
	}
	for range 25 {
		out = append(out, drawnRow(lot, n))
	}
	return out
}

func forSureRows(do func(r impl.Row, n int64)) {
	for n := int64(1); n <= lastRow; n++ {
		for _, r := range sureRows(n) {
			do(r, n)
		}
	}
}

// rowLengths are n that are right and such as are not; some of these would be right if they were cut short.
func rowLengths() []int64 {
	return append(ends(), 0, 1, 2, 3, 4, 5, 6, 7, 8, 9, -3, -5, 13, 256, 257, 261, 1<<16+3, 1<<32, 1<<32+1, 1<<32+5, -1<<32+2)
}

func TestRowsWrittenOut(t *testing.T) {
	cases := []struct {
		row  impl.Row
		n    int64
		want bool
	}{
		{impl.Row{Got: []int64{0}}, 1, true},
		{impl.Row{Got: []int64{0}}, 2, false},
		{impl.Row{Got: []int64{0, 0}}, 1, false},
		{impl.Row{}, 0, false},
		{impl.Row{}, 1, false},
		{impl.Row{Ver: 4, Texts: []string{"x", ""}, Got: []int64{12, 0, 5}}, 3, true},
		// Who is suspected, and who is not Wedged yet, may well be one Row.
		{impl.Row{Got: []int64{0, 0, 0}, Suspects: []int64{0, 2}}, 3, true},
		{impl.Row{Got: []int64{0, 0, 0}, Suspects: []int64{0, 3}}, 3, false},
		{impl.Row{Got: []int64{0, 0, 0}, Wedged: true}, 3, true},
		{impl.Row{Got: []int64{0, 0, 0}, Ready: true, Trim: []int64{0, 0, 0}}, 3, false},
		{impl.Row{Got: []int64{0, 0, 0}, Wedged: true, Ready: true, Trim: []int64{0, 0, 0}}, 3, true},
		{impl.Row{Got: []int64{0, 0, 0}, Wedged: true, Ready: true, By: 2, Trim: []int64{12, 1, 0}}, 3, true},
		{impl.Row{Got: []int64{0, 0, 0}, Wedged: true, Ready: true, By: 3, Trim: []int64{12, 1, 0}}, 3, false},
		{impl.Row{Got: []int64{0, 0, 0}, Wedged: true, Ready: true, By: 2, Trim: []int64{13, 1, 0}}, 3, false},
		{impl.Row{Got: []int64{0, 0, 0}, Wedged: true, Ready: true}, 3, false},
		{impl.Row{Got: []int64{0, 0, 0}, Wedged: true, By: 2}, 3, false},
		{impl.Row{Got: []int64{0, 0, 0}, Wedged: true, Trim: []int64{0, 0, 0}}, 3, false},
		{impl.Row{Got: []int64{0, 0, 0, 0, 0}}, 5, true},
		// A vector of six is one, but a Row has no more than five.
		{impl.Row{Got: []int64{0, 0, 0, 0, 0, 0}}, 6, false},
		{impl.Row{Got: []int64{0, 0, 0, 0, 0, 0, 0, 0}}, 8, false},
	}
	for _, c := range cases {
		if got := impl.RowOk(c.row, c.n); got != c.want {
			t.Errorf("RowOk(%s, %d) is %v", toldRow(c.row), c.n, got)
		}
	}
}

// Each thing that Follows asks is broken by itself here, with all the rest kept; and each thing that may change does.
func TestFollowsWrittenOut(t *testing.T) {
	a := impl.Row{Ver: 7, Texts: []string{"x", "yz"}, Got: []int64{2, 3, 4}, Suspects: []int64{0, 2}, Wedged: true, Ready: true, By: 1, Trim: []int64{1, 2, 3}}
	cases := []struct {
		what   string
		change func(b *impl.Row)
		want   bool
	}{
		{"nothing", func(b *impl.Row) {}, true},
		{"Ver 1 more", func(b *impl.Row) { b.Ver = 8 }, true},
		{"Ver 1 less", func(b *impl.Row) { b.Ver = 6 }, false},
		{"a Text more", func(b *impl.Row) { b.Texts = []string{"x", "yz", ""} }, true},
		{"a Text more in front", func(b *impl.Row) { b.Texts = []string{"", "x", "yz"} }, false},
		{"a Text more between", func(b *impl.Row) { b.Texts = []string{"x", "", "yz"} }, false},
		{"the first Text changed", func(b *impl.Row) { b.Texts = []string{"X", "yz"} }, false},
		{"the last Text changed", func(b *impl.Row) { b.Texts = []string{"x", "yy"} }, false},
		{"the last Text shorter", func(b *impl.Row) { b.Texts = []string{"x", "y"} }, false},
		{"the last Text longer", func(b *impl.Row) { b.Texts = []string{"x", "yzz"} }, false},
		{"the last Text left out", func(b *impl.Row) { b.Texts = []string{"x"} }, false},
		{"the first Text left out", func(b *impl.Row) { b.Texts = []string{"yz"} }, false},
		{"all Texts left out", func(b *impl.Row) { b.Texts = nil }, false},
		{"Texts the other way round", func(b *impl.Row) { b.Texts = []string{"yz", "x"} }, false},
		{"Texts as one", func(b *impl.Row) { b.Texts = []string{"xyz"} }, false},
		{"a Text in two", func(b *impl.Row) { b.Texts = []string{"x", "y", "z"} }, false},
		{"Got 1 more", func(b *impl.Row) { b.Got = []int64{2, 4, 4} }, true},
		{"Got more of all", func(b *impl.Row) { b.Got = []int64{12, 12, 12} }, true},
		{"the first Got 1 less", func(b *impl.Row) { b.Got = []int64{1, 3, 4} }, false},
		{"a Got between 1 less", func(b *impl.Row) { b.Got = []int64{2, 2, 4} }, false},
		{"the last Got 1 less, the others more", func(b *impl.Row) { b.Got = []int64{12, 12, 3} }, false},
		{"a Suspect more", func(b *impl.Row) { b.Suspects = []int64{0, 1, 2} }, true},
		{"the first Suspect gone", func(b *impl.Row) { b.Suspects = []int64{2} }, false},
		{"the last Suspect gone", func(b *impl.Row) { b.Suspects = []int64{0} }, false},
		{"a Suspect gone and another one come", func(b *impl.Row) { b.Suspects = []int64{0, 1} }, false},
		{"no Suspects", func(b *impl.Row) { b.Suspects = nil }, false},
		{"no longer Ready", func(b *impl.Row) { b.Ready, b.By, b.Trim = false, 0, nil }, false},
		{"no longer Wedged nor Ready", func(b *impl.Row) { b.Wedged, b.Ready, b.By, b.Trim = false, false, 0, nil }, false},
		{"By 1 more", func(b *impl.Row) { b.By = 2 }, true},
		{"By 1 less", func(b *impl.Row) { b.By = 0 }, false},
		// The document asks nothing of the next Trim but that it is one.
		{"another Trim", func(b *impl.Row) { b.Trim = []int64{0, 12, 0} }, true},
		{"another Trim by another one", func(b *impl.Row) { b.By, b.Trim = 2, []int64{0, 0, 0} }, true},
		{"more of everything", func(b *impl.Row) {
			*b = impl.Row{Ver: most, Texts: []string{"x", "yz", "w"}, Got: []int64{3, 3, 5}, Suspects: []int64{0, 1, 2}, Wedged: true, Ready: true, By: 2, Trim: []int64{0, 0, 0}}
		}, true},
	}
	for _, c := range cases {
		b := changed(a, c.change)
		if !impl.RowOk(b, 3) {
			t.Errorf("%s: it is no right Row", c.what)
		}
		if got := impl.Follows(a, b, 3); got != c.want {
			t.Errorf("%s: Follows is %v", c.what, got)
		}
	}
}

func TestStandingsFollow(t *testing.T) {
	for n := int64(1); n <= lastRow; n++ {
		for _, base := range []impl.Row{midRow(n), fullRow(n), bareRow(n)} {
			line := []impl.Row{unwedged(base), unready(base)}
			for by := range n {
				line = append(line, changed(base, func(r *impl.Row) { r.By = by }))
			}
			for i, a := range line {
				for k, b := range line {
					if got := impl.Follows(a, b, n); got != (i <= k) {
						t.Fatalf("Follows(%s, %s, %d) is %v", toldRow(a), toldRow(b), n, got)
					}
				}
			}
		}
	}
}

// broken are all Rows in which one thing, and nothing else, is less than in r.
func broken(r impl.Row) map[string]impl.Row {
	out := map[string]impl.Row{}
	set := func(what string, change func(r *impl.Row)) { out[what] = changed(r, change) }
	if r.Ver > 0 {
		set("Ver less by one", func(r *impl.Row) { r.Ver-- })
	}
	for i := range r.Texts {
		set(fmt.Sprint("changed Text ", i), func(r *impl.Row) { r.Texts[i] = otherText(r.Texts[i]) })
	}
	if last := len(r.Texts) - 1; last >= 0 {
		set("a Text left out at the end", func(r *impl.Row) { r.Texts = r.Texts[:last] })
		if !slices.Equal(r.Texts[1:], r.Texts[:last]) {
			set("a Text left out in front", func(r *impl.Row) { r.Texts = r.Texts[1:] })
		}
	}
	for k, count := range r.Got {
		if count > 0 {
			set(fmt.Sprint("less of Got ", k), func(r *impl.Row) { r.Got[k]-- })
		}
	}
	for i := range r.Suspects {
		set(fmt.Sprint("gone Suspect ", i), func(r *impl.Row) { r.Suspects = slices.Delete(r.Suspects, i, i+1) })
	}
	if r.Ready {
		out["no longer Ready"] = unready(r)
	}
	if r.Wedged {
		out["no longer Wedged"] = unwedged(r)
	}
	if r.By > 0 {
		set("By less", func(r *impl.Row) { r.By-- })
	}
	return out
}

// otherText is one byte unlike, of the same length where there is one.
func otherText(s string) string {
	if s == "" {
		return "\x00"
	}
	last := len(s) - 1
	return s[:last] + string([]byte{s[last] ^ 0x80})
}

func TestFollowsNothingThatIsLess(t *testing.T) {
	seen := map[string]int{}
	forSureRows(func(r impl.Row, n int64) {
		for what, less := range broken(r) {
			if !impl.RowOk(less, n) || impl.Follows(r, less, n) {
				t.Fatalf("%s: RowOk is %v, Follows(%s, %s, %d) is %v", what, impl.RowOk(less, n), toldRow(r), toldRow(less), n, impl.Follows(r, less, n))
			}
			// The other way it does, unless a Text is another one or does not stand where it stood.
			if got := checkFollows(t, less, r, n); !got && slices.Equal(less.Texts, r.Texts) {
				t.Fatalf("%s: Follows(%s, %s, %d) is false", what, toldRow(less), toldRow(r), n)
			}
			seen[strings.TrimRight(what, " 0123456789")]++
		}
	})
	if len(seen) != 9 {
		t.Fatalf("only these were broken: %v", seen)
	}
}

// Where all the rest has grown as far as it can, one thing that is less is enough.
func TestFollowsNothingThatIsLessThoughTheRestIsMore(t *testing.T) {
	for n := int64(1); n <= lastRow; n++ {
		a := midRow(n)
		top := changed(fullRow(n), func(r *impl.Row) { copy(r.Texts, a.Texts) })
		if !impl.Follows(a, top, n) {
			t.Fatalf("Follows(%s, %s, %d) is false", toldRow(a), toldRow(top), n)
		}
		wrong := []impl.Row{
			changed(top, func(r *impl.Row) { r.Ver = a.Ver - 1 }),
			changed(top, func(r *impl.Row) { r.Texts = r.Texts[:len(a.Texts)-1] }),
			changed(top, func(r *impl.Row) { r.Texts = r.Texts[1:] }),
			unready(top), unwedged(top),
		}
		for i := range a.Texts {
			wrong = append(wrong, changed(top, func(r *impl.Row) { r.Texts[i] += "x" }))
		}
		for k := range a.Got {
			wrong = append(wrong, changed(top, func(r *impl.Row) { r.Got[k] = a.Got[k] - 1 }))
		}
		for _, who := range a.Suspects {
			wrong = append(wrong, changed(top, func(r *impl.Row) { r.Suspects = slices.Delete(r.Suspects, int(who), int(who)+1) }))
		}
		if a.By > 0 {
			wrong = append(wrong, changed(top, func(r *impl.Row) { r.By = a.By - 1 }))
		}
		for _, b := range wrong {
			if !impl.RowOk(b, n) || impl.Follows(a, b, n) {
				t.Fatalf("Follows(%s, %s, %d) is %v, RowOk is %v", toldRow(a), toldRow(b), n, impl.Follows(a, b, n), impl.RowOk(b, n))
			}
		}
	}
}

// Promise 16: a right Row Follows itself, also where the other one is a copy.
func TestRowFollowsItself(t *testing.T) {
	forSureRows(func(r impl.Row, n int64) {
		if !checkRowOk(t, r, n) || !checkFollows(t, r, r, n) || !impl.Follows(r, copiedRow(r), n) {
			t.Fatalf("%s is right, but does not Follow itself", toldRow(r))
		}
	})
}

// smallRowsOf are many that are near to one another, so that many of them Follow others.
func smallRowsOf(n int64, got ...[]int64) []impl.Row {
	var out []impl.Row
	for _, ver := range []int64{0, 1} {
		for _, texts := range [][]string{nil, {"a"}, {"a", ""}, {"b"}} {
			for _, counts := range got {
				for _, suspects := range [][]int64{nil, {0}, {n - 1}, firstNumbers(n)} {
					base := impl.Row{Ver: ver, Texts: texts, Got: counts, Suspects: suspects}
					out = append(out, base, changed(base, func(r *impl.Row) { r.Wedged = true }))
					for _, by := range []int64{0, n - 1} {
						out = append(out, changed(base, func(r *impl.Row) { r.Wedged, r.Ready, r.By, r.Trim = true, true, by, repeated(1, int(n)) }))
					}
				}
			}
		}
	}
	return out
}

// alikeButTrim is for two that Follow one another: the Trim alone is not asked there.
func alikeButTrim(a, b impl.Row) bool {
	b.Trim = a.Trim
	return alikeRow(a, b)
}

// Promise 16: where b Follows a and c Follows b, c Follows a; and two that Follow one another are alike.
func checkGoesOn(t *testing.T, rows []impl.Row, n int64) (followed, unfollowed int) {
	t.Helper()
	table := make([][]bool, len(rows))
	for i, a := range rows {
		for _, b := range rows {
			table[i] = append(table[i], checkFollows(t, a, b, n))
		}
	}
	for i := range rows {
		for k := range rows {
			if !table[i][k] {
				unfollowed++
				continue
			}
			followed++
			if table[k][i] && !alikeButTrim(rows[i], rows[k]) {
				t.Fatalf("%s and %s Follow one another", toldRow(rows[i]), toldRow(rows[k]))
			}
			for m := range rows {
				if table[k][m] && !table[i][m] {
					t.Fatalf("%s Follows %s Follows %s, but not it", toldRow(rows[m]), toldRow(rows[k]), toldRow(rows[i]))
				}
			}
		}
	}
	return followed, unfollowed
}

func TestFollowsGoesOn(t *testing.T) {
	for n, got := range map[int64][][]int64{
		1: {{0}, {1}},
		2: {{0, 0}, {1, 0}, {0, 1}},
		5: {{1, 1, 1, 1, 1}, {1, 1, 1, 1, 2}, {2, 1, 1, 1, 1}},
	} {
		followed, unfollowed := checkGoesOn(t, smallRowsOf(n, got...), n)
		if followed < 1000 || unfollowed < 1000 {
			t.Fatalf("of n %d only %d Follow and %d do not", n, followed, unfollowed)
		}
	}
	for n := int64(1); n <= lastRow; n++ {
		checkGoesOn(t, sureRows(n), n)
	}
}

// grownOnce is r with one thing more, or as it was where that can't grow any more.
func grownOnce(lot *rand.Rand, r impl.Row, n int64) impl.Row {
	r = copiedRow(r)
	switch k := lot.Int63n(n); lot.Intn(7) {
	case 0:
		r.Ver = min(most, r.Ver+lot.Int63n(3))
	case 1:
		if len(r.Texts) < mostSaid {
			r.Texts = append(r.Texts, drawnText(lot, lot.Intn(longestSaid+1)))
		}
	case 2:
		r.Got[k] = min(mostGot, r.Got[k]+1+lot.Int63n(2))
	case 3:
		r.Suspects = slices.Compact(slices.Sorted(slices.Values(append(r.Suspects, k))))
	case 4:
		r.Wedged = true
	case 5:
		if r.Wedged && !r.Ready {
			r.Ready, r.By, r.Trim = true, k, drawnCounts(lot, n)
		}
	case 6:
		if r.Ready {
			r.By, r.Trim = max(r.By, k), drawnCounts(lot, n)
		}
	}
	return r
}

// Promise 16: whatever a Row has become step by step Follows all that it was; and what is less than one of these Follows it not.
func TestGrownRowsFollowAllTheyWere(t *testing.T) {
	lot := rand.New(rand.NewSource(161))
	for n := int64(1); n <= lastRow; n++ {
		for range 40 {
			line := []impl.Row{impl.NewRow(n)}
			for range 60 {
				line = append(line, grownOnce(lot, line[len(line)-1], n))
			}
			for i, a := range line {
				for _, b := range line[i:] {
					if !checkFollows(t, a, b, n) || !alikeButTrim(a, b) && checkFollows(t, b, a, n) {
						t.Fatalf("%s became %s", toldRow(a), toldRow(b))
					}
				}
			}
			last := line[len(line)-1]
			for what, less := range broken(last) {
				if impl.Follows(last, less, n) {
					t.Fatalf("%s: %s Follows %s", what, toldRow(less), toldRow(last))
				}
			}
		}
	}
}

// Each right Row Follows the new one.
func TestAllFollowTheNewRow(t *testing.T) {
	forSureRows(func(r impl.Row, n int64) {
		if !impl.Follows(impl.NewRow(n), r, n) {
			t.Fatalf("%s does not Follow NewRow(%d)", toldRow(r), n)
		}
		if got := checkFollows(t, r, impl.NewRow(n), n); got != alikeRow(r, impl.NewRow(n)) {
			t.Fatalf("NewRow(%d) Follows %s", n, toldRow(r))
		}
	})
}

func TestNewRow(t *testing.T) {
	for _, n := range rowLengths() {
		r := impl.NewRow(n)
		if n < 1 || n > lastRow {
			if !isZeroRow(r) {
				t.Fatalf("NewRow(%d) is %s", n, toldRow(r))
			}
		} else if !alikeRow(r, impl.Row{Got: repeated(0, int(n))}) {
			t.Fatalf("NewRow(%d) is %s", n, toldRow(r))
		}
		for _, asked := range rowLengths() {
			if got := impl.RowOk(r, asked); got != (asked == n && n >= 1 && n <= lastRow) {
				t.Fatalf("RowOk(NewRow(%d), %d) is %v", n, asked, got)
			}
			checkFollows(t, r, r, asked)
		}
	}
}

// Promise 21: a Row that is right of one n is right of no other, and nothing Follows it there.
func TestRowsWithAnotherN(t *testing.T) {
	forSureRows(func(r impl.Row, n int64) {
		for _, asked := range rowLengths() {
			if got := checkRowOk(t, r, asked); got != (asked == n) {
				t.Fatalf("RowOk(%s, %d) is %v", toldRow(r), asked, got)
			}
			if got := checkFollows(t, r, r, asked); got != (asked == n) {
				t.Fatalf("Follows(%s, the same, %d) is %v", toldRow(r), asked, got)
			}
			for other := int64(1); other <= lastRow; other++ {
				if other != n && (impl.Follows(r, midRow(other), asked) || impl.Follows(impl.NewRow(other), r, asked)) {
					t.Fatalf("Follows of %s and one with %d numbers, asked with %d", toldRow(r), other, asked)
				}
			}
		}
	})
	// Six to eight numbers are a vector, so n alone is what is wrong.
	for n := int64(6); n <= 9; n++ {
		for _, r := range []impl.Row{midRow(n), unready(midRow(n)), unwedged(midRow(n)), fullRow(n), bareRow(n), {Got: repeated(0, int(n))}} {
			checkNoRow(t, r)
		}
	}
}

func TestLaterAsksTheVers(t *testing.T) {
	vers := append(ends(), 0, 1, 2, 3, 6, 7, 8, most-1, most, most+1, 1<<32, 1<<32+1)
	rest := []impl.Row{{}, impl.NewRow(3), midRow(3), fullRow(3), fullRow(5), bareRow(2), {Got: repeated(-1, 9), Ready: true, By: -4}}
	for _, a := range rest {
		for _, b := range rest {
			for _, one := range vers {
				for _, other := range vers {
					a.Ver, b.Ver = one, other
					checkLater(t, a, b)
				}
			}
		}
	}
	for _, ver := range []int64{1, 7, most} {
		a := changed(midRow(3), func(r *impl.Row) { r.Ver = ver })
		less := changed(a, func(r *impl.Row) { r.Ver-- })
		if !impl.Later(a, less) || impl.Later(less, a) || impl.Later(a, a) || impl.Later(a, copiedRow(a)) {
			t.Fatalf("Later of %d and %d is %v, the other way %v, with itself %v", ver, ver-1, impl.Later(a, less), impl.Later(less, a), impl.Later(a, a))
		}
	}
}

// What grew in all but its Ver is not Later; what lost all but its Ver is.
func TestLaterAsksNothingElse(t *testing.T) {
	forSureRows(func(r impl.Row, n int64) {
		top := changed(fullRow(n), func(top *impl.Row) { top.Ver = r.Ver })
		checkLater(t, top, r)
		if impl.Later(top, r) || impl.Later(r, top) {
			t.Fatalf("one of %s and %s is Later", toldRow(top), toldRow(r))
		}
		if r.Ver > 0 && !impl.Later(impl.Row{Ver: r.Ver}, changed(top, func(top *impl.Row) { top.Ver-- })) {
			t.Fatalf("Ver %d is not Later than one less", r.Ver)
		}
	})
}

// wrongRow is a right Row of n with one thing wrong.
type wrongRow struct {
	why string
	n   int64
	row impl.Row
}

// wrongEverywhere are changes that make any right Row a wrong one, whatever its standing.
func wrongEverywhere(n int64) map[string]func(r *impl.Row) {
	out := map[string]func(r *impl.Row){
		"Ver -1":                   func(r *impl.Row) { r.Ver = -1 },
		"Ver above MaxCount":       func(r *impl.Row) { r.Ver = impl.MaxCount + 1 },
		"13 Texts":                 func(r *impl.Row) { r.Texts = repeatedText("t", 13) },
		"13 empty Texts":           func(r *impl.Row) { r.Texts = repeatedText("", 13) },
		"Got of none":              func(r *impl.Row) { r.Got = nil },
		"Got of an empty list":     func(r *impl.Row) { r.Got = []int64{} },
		"Got of one too few":       func(r *impl.Row) { r.Got = r.Got[:n-1] },
		"Got of one too many":      func(r *impl.Row) { r.Got = append(r.Got, 0) },
		"Suspects two alike":       func(r *impl.Row) { r.Suspects = []int64{0, 0} },
		"Suspects two alike last":  func(r *impl.Row) { r.Suspects = append(firstNumbers(n), n-1) },
		"Suspect -1":               func(r *impl.Row) { r.Suspects = []int64{-1} },
		"Suspect -1 ahead":         func(r *impl.Row) { r.Suspects = append([]int64{-1}, firstNumbers(n)...) },
		"Suspect 8":                func(r *impl.Row) { r.Suspects = []int64{8} },
		"Suspect 8 behind":         func(r *impl.Row) { r.Suspects = append(firstNumbers(n), 8) },
		"Suspect n":                func(r *impl.Row) { r.Suspects = []int64{n} },
		"Suspect n behind":         func(r *impl.Row) { r.Suspects = append(firstNumbers(n), n) },
		"By -1":                    func(r *impl.Row) { r.By = -1 },
		"By 8":                     func(r *impl.Row) { r.By = 8 },
		"By n":                     func(r *impl.Row) { r.By = n },
		"Trim of one too many":     func(r *impl.Row) { r.Trim = repeated(1, int(n)+1) },
		"Trim of noughts too many": func(r *impl.Row) { r.Trim = repeated(0, int(n)+1) },
	}
	if n > 1 {
		out["Suspects that fall"] = func(r *impl.Row) { r.Suspects = []int64{n - 1, 0} }
		out["Suspects that fall by one"] = func(r *impl.Row) { r.Suspects = []int64{1, 0} }
		out["Trim of one too few"] = func(r *impl.Row) { r.Trim = repeated(1, int(n)-1) }
	}
	for _, place := range []int{0, 5, 11} {
		out[fmt.Sprint("a Text of 21 bytes at ", place)] = func(r *impl.Row) {
			r.Texts = repeatedText("", 12)
			r.Texts[place] = strings.Repeat("x", 21)
		}
	}
	for place := range n {
		for _, wrong := range []int64{-1, 13} {
			out[fmt.Sprint("Got ", wrong, " at ", place)] = func(r *impl.Row) { r.Got[place] = wrong }
			out[fmt.Sprint("Trim ", wrong, " at ", place)] = func(r *impl.Row) {
				r.Trim = repeated(1, int(n))
				r.Trim[place] = wrong
			}
		}
	}
	return out
}

func repeatedText(text string, times int) []string { return slices.Repeat([]string{text}, times) }

// wrongStandings are those that hang on the flags: what goes with Ready alone, and what does not go with it.
func wrongStandings(n int64) []wrongRow {
	var out []wrongRow
	for _, base := range []impl.Row{midRow(n), fullRow(n), bareRow(n)} {
		out = append(out,
			wrongRow{"Ready but not Wedged", n, changed(base, func(r *impl.Row) { r.Wedged = false })},
			wrongRow{"Ready with no Trim", n, changed(base, func(r *impl.Row) { r.Trim = nil })},
			wrongRow{"Ready with an empty Trim", n, changed(base, func(r *impl.Row) { r.Trim = []int64{} })},
			wrongRow{"neither Ready nor Wedged, but with a Trim", n, changed(base, func(r *impl.Row) { r.Ready, r.Wedged, r.By = false, false, 0 })},
			wrongRow{"not Ready, but with a Trim", n, changed(base, func(r *impl.Row) { r.Ready, r.By = false, 0 })})
		for by := int64(1); by < n; by++ {
			withBy := func(r *impl.Row) { r.By = by }
			out = append(out,
				wrongRow{"not Ready, but with a By", n, changed(unready(base), withBy)},
				wrongRow{"neither Ready nor Wedged, but with a By", n, changed(unwedged(base), withBy)})
		}
		for _, trim := range [][]int64{{0}, repeated(0, int(n)), repeated(13, 1)} {
			withTrim := func(r *impl.Row) { r.Trim = trim }
			out = append(out,
				wrongRow{"not Ready, but with some Trim", n, changed(unready(base), withTrim)},
				wrongRow{"neither Ready nor Wedged, but with some Trim", n, changed(unwedged(base), withTrim)})
		}
	}
	return out
}

func wrongRows() []wrongRow {
	var out []wrongRow
	for n := int64(1); n <= lastRow; n++ {
		for _, base := range []impl.Row{midRow(n), fullRow(n), bareRow(n), unready(midRow(n)), unwedged(midRow(n)), impl.NewRow(n)} {
			for why, change := range wrongEverywhere(n) {
				out = append(out, wrongRow{why, n, changed(base, change)})
			}
		}
		out = append(out, wrongStandings(n)...)
	}
	slices.SortStableFunc(out, func(a, b wrongRow) int { return strings.Compare(a.why, b.why) })
	return out
}

// checkNoRow is for what is right of no n.
func checkNoRow(t *testing.T, r impl.Row) {
	t.Helper()
	for _, n := range rowLengths() {
		checkNoRowOf(t, r, n)
	}
}

// checkNoRowOf asks with right Rows on both sides, too.
func checkNoRowOf(t *testing.T, r impl.Row, n int64) {
	t.Helper()
	if impl.RowOk(r, n) {
		t.Fatalf("RowOk(%s, %d)", toldRow(r), n)
	}
	if impl.Follows(r, r, n) {
		t.Fatalf("Follows(%s, the same, %d)", toldRow(r), n)
	}
	if n < 1 || n > lastRow {
		return
	}
	for _, right := range []impl.Row{impl.NewRow(n), midRow(n), fullRow(n), unready(fullRow(n)), unwedged(fullRow(n))} {
		if impl.Follows(r, right, n) || impl.Follows(right, r, n) {
			t.Fatalf("Follows of %s, which is no Row, and %s, with %d", toldRow(r), toldRow(right), n)
		}
	}
}

// Promise 21: Rows that are not right, each for one reason alone.
func TestRowsThatAreNotRight(t *testing.T) {
	for _, wrong := range wrongRows() {
		if impl.RowOk(wrong.row, wrong.n) || isRow(wrong.row, wrong.n) {
			t.Errorf("%s: RowOk(%s, %d) is %v", wrong.why, toldRow(wrong.row), wrong.n, impl.RowOk(wrong.row, wrong.n))
		}
		checkNoRowOf(t, wrong.row, wrong.n)
		// With one number more or less in Got it may be a right one of another n.
		for _, n := range rowLengths() {
			checkRowOk(t, wrong.row, n)
			checkFollows(t, wrong.row, wrong.row, n)
		}
		checkLater(t, wrong.row, midRow(wrong.n))
		checkLater(t, wrong.row, fullRow(wrong.n))
	}
}

// The same places, with what may just stand there: so it is the one thing that made those wrong.
func TestTableRowsAtTheLimits(t *testing.T) {
	for n := int64(1); n <= lastRow; n++ {
		right := map[string]func(r *impl.Row){
			"Ver 0":                 func(r *impl.Row) { r.Ver = 0 },
			"Ver MaxCount":          func(r *impl.Row) { r.Ver = impl.MaxCount },
			"12 Texts of 20 bytes":  func(r *impl.Row) { r.Texts = repeatedText(strings.Repeat("x", 20), 12) },
			"12 empty Texts":        func(r *impl.Row) { r.Texts = repeatedText("", 12) },
			"no Texts":              func(r *impl.Row) { r.Texts = nil },
			"Got of 0":              func(r *impl.Row) { r.Got = repeated(0, int(n)) },
			"Got of 12":             func(r *impl.Row) { r.Got = repeated(12, int(n)) },
			"no Suspects":           func(r *impl.Row) { r.Suspects = nil },
			"Suspects all below n":  func(r *impl.Row) { r.Suspects = firstNumbers(n) },
			"the last one Suspect":  func(r *impl.Row) { r.Suspects = []int64{n - 1} },
			"the first one Suspect": func(r *impl.Row) { r.Suspects = []int64{0} },
		}
		ready := map[string]func(r *impl.Row){
			"By 0":          func(r *impl.Row) { r.By = 0 },
			"By n less 1":   func(r *impl.Row) { r.By = n - 1 },
			"Trim of 0":     func(r *impl.Row) { r.Trim = repeated(0, int(n)) },
			"Trim of 12":    func(r *impl.Row) { r.Trim = repeated(12, int(n)) },
			"Trim over Got": func(r *impl.Row) { r.Got, r.Trim = repeated(0, int(n)), repeated(12, int(n)) },
		}
		for _, base := range []impl.Row{midRow(n), fullRow(n), bareRow(n), unready(midRow(n)), unwedged(midRow(n)), impl.NewRow(n)} {
			checkAllRight(t, base, n, right)
			if base.Ready {
				checkAllRight(t, base, n, ready)
			}
		}
	}
}

func checkAllRight(t *testing.T, base impl.Row, n int64, changes map[string]func(r *impl.Row)) {
	t.Helper()
	for what, change := range changes {
		r := changed(base, change)
		if !impl.RowOk(r, n) || !isRow(r, n) || !impl.Follows(r, r, n) {
			t.Fatalf("%s: RowOk(%s, %d) is %v, it Follows itself: %v", what, toldRow(r), n, impl.RowOk(r, n), impl.Follows(r, r, n))
		}
	}
}

// All lists of at most three Suspects out of these, and all counts of numbers.
func TestAllSmallSuspectsAndCounts(t *testing.T) {
	for n := int64(-1); n <= 7; n++ {
		for length := range 4 {
			for _, list := range allLists[int64](length, -1, 0, 1, 2, 4, 5, 7, 8) {
				for _, base := range []impl.Row{{Got: repeated(1, max(0, int(n)))}, midRow(max(1, n))} {
					r := changed(base, func(r *impl.Row) { r.Suspects = list })
					checkRowOk(t, r, n)
					checkFollows(t, r, r, n)
				}
			}
		}
		for length := range 10 {
			for _, count := range []int64{-1, 0, 12, 13} {
				for trim := range 10 {
					r := impl.Row{Got: repeated(1, length), Wedged: true, Ready: true, Trim: repeated(count, trim)}
					checkRowOk(t, r, n)
					r.Got, r.Trim = r.Trim, r.Got
					checkRowOk(t, r, n)
				}
			}
		}
	}
}

// All flags with each By and with Trims of each kind.
func TestAllStandings(t *testing.T) {
	for n := int64(1); n <= lastRow; n++ {
		for _, flags := range allLists(2, false, true) {
			for by := int64(-2); by <= 9; by++ {
				for _, trim := range [][]int64{nil, {}, {0}, repeated(0, int(n)), repeated(1, int(n)), repeated(12, int(n)), repeated(13, int(n)), repeated(-1, int(n)), repeated(1, int(n)+1), repeated(1, int(n)-1)} {
					r := impl.Row{Got: repeated(2, int(n)), Wedged: flags[0], Ready: flags[1], By: by, Trim: trim}
					checkRowOk(t, r, n)
					checkFollows(t, r, midRow(n), n)
					checkFollows(t, impl.NewRow(n), r, n)
				}
			}
		}
	}
}

// Drawn pairs that differ in one or two things, right or not.
func TestFollowsOfManyDrawn(t *testing.T) {
	lot := rand.New(rand.NewSource(162))
	right := 0
	for range 40000 {
		n := 1 + lot.Int63n(lastRow)
		a := drawnRow(lot, n)
		b := a
		for range 1 + lot.Intn(3) {
			b = grownOnce(lot, b, n)
		}
		a = nudged(lot, a)
		b = nudged(lot, b)
		checkRowOk(t, a, n)
		checkRowOk(t, b, n)
		if checkFollows(t, a, b, n) {
			right++
		}
		checkFollows(t, b, a, n)
		checkLater(t, a, b)
	}
	if right < 5000 || right > 35000 {
		t.Fatalf("%d of 40000 Follow", right)
	}
}

// nudged changes one number, text or flag, whether that is right or not; or nothing, half of the time.
func nudged(lot *rand.Rand, r impl.Row) impl.Row {
	by := lot.Int63n(3) - 1
	return changed(r, func(r *impl.Row) {
		switch lot.Intn(16) {
		case 0:
			r.Ver += by
		case 1:
			if len(r.Texts) > 0 {
				i := lot.Intn(len(r.Texts))
				r.Texts[i] = otherText(r.Texts[i])
			}
		case 2:
			r.Texts = r.Texts[:lot.Intn(len(r.Texts)+1)]
		case 3:
			r.Got[lot.Intn(len(r.Got))] += by
		case 4:
			if len(r.Suspects) > 0 {
				r.Suspects[lot.Intn(len(r.Suspects))] += by
			}
		case 5:
			r.Wedged = !r.Wedged
		case 6:
			r.Ready = !r.Ready
		case 7:
			r.By += by
		case 8:
			if len(r.Trim) > 0 {
				r.Trim[lot.Intn(len(r.Trim))] += by
			}
		}
	})
}

// saidTexts are of any bytes, at most 20: such as are no text of runes, too.
func saidTexts() []string {
	out := []string{"", " ", "\n", "\x00", "\x00\x00", "\xff", "\xfe", "\xef\xbf\xbd", "a\x00", "a\x00b", "é", "e\u0301", "\u0151", "\xc3", "\xc3\xa9\xc3", "a", "A", "aa", "a ", " a",
		strings.Repeat("\x00", 20), strings.Repeat("\xff", 20), strings.Repeat("é", 10), strings.Repeat("€", 6), strings.Repeat("x", 19), strings.Repeat("x", 20)}
	for b := range 256 {
		out = append(out, string([]byte{byte(b)})+"-")
	}
	return out
}

func TestRowTextsOfAnyBytes(t *testing.T) {
	texts := saidTexts()
	for i, one := range texts {
		a := changed(midRow(2), func(r *impl.Row) { r.Texts = []string{"b", one} })
		if !impl.RowOk(a, 2) {
			t.Fatalf("RowOk with %q is false", one)
		}
		for k, other := range texts {
			b := changed(a, func(r *impl.Row) { r.Texts = []string{"b", other, "c"} })
			if got := impl.Follows(a, b, 2); got != (i == k) {
				t.Fatalf("%q, and then %q there: Follows is %v", one, other, got)
			}
		}
		for _, list := range [][]string{{"b", one + "\x00"}, {"b", one + " "}, {"b", "b" + one}, {one, "b"}, {"b" + one}, {"b"}, nil} {
			checkFollows(t, a, changed(a, func(r *impl.Row) { r.Texts = list }), 2)
		}
	}
}

// A limit of bytes: letters of two bytes count twice.
func TestRowTextsAreCountedInBytes(t *testing.T) {
	for _, c := range []struct {
		letter string
		most   int
	}{{"x", 20}, {"\x00", 20}, {"\xff", 20}, {"é", 10}, {"€", 6}, {"𝄞", 5}} {
		for count := range 30 {
			for _, texts := range [][]string{{strings.Repeat(c.letter, count)}, append(repeatedText("", 11), strings.Repeat(c.letter, count))} {
				r := changed(midRow(3), func(r *impl.Row) { r.Texts = texts })
				if got := impl.RowOk(r, 3); got != (count <= c.most) {
					t.Fatalf("RowOk with %d times %q is %v", count, c.letter, got)
				}
			}
		}
	}
	for count := range 20 {
		for _, text := range []string{"", "x", strings.Repeat("y", 20)} {
			r := changed(midRow(3), func(r *impl.Row) { r.Texts = repeatedText(text, count) })
			if got := impl.RowOk(r, 3); got != (count <= 12) {
				t.Fatalf("RowOk with %d Texts %q is %v", count, text, got)
			}
		}
	}
}

// Each count of Texts with each other one: the longer Follows the shorter.
func TestFollowsByCountsOfTexts(t *testing.T) {
	all := append([]string{"a", "a", "b", "", "", "c", "a"}, repeatedText("d", 5)...)
	for first := range len(all) + 1 {
		for second := range len(all) + 1 {
			a := changed(midRow(2), func(r *impl.Row) { r.Texts = slices.Clone(all[:first]) })
			b := changed(midRow(2), func(r *impl.Row) { r.Texts = slices.Clone(all[:second]) })
			if got := impl.Follows(a, b, 2); got != (first <= second) {
				t.Fatalf("of %d Texts and then %d Follows is %v", first, second, got)
			}
			for i := range second {
				c := changed(b, func(r *impl.Row) { r.Texts[i] += "x" })
				if got := impl.Follows(a, c, 2); got != (first <= second && i >= first) {
					t.Fatalf("of %d Texts and then %d, number %d another one, Follows is %v", first, second, i, got)
				}
			}
		}
	}
}

// Each choice of Suspects with each other one: all that were are still.
func TestFollowsByAllSuspects(t *testing.T) {
	for n := int64(1); n <= lastRow; n++ {
		for _, one := range partsOf(n) {
			for _, other := range partsOf(n) {
				a := changed(midRow(n), func(r *impl.Row) { r.Suspects = slices.Clone(one) })
				b := changed(midRow(n), func(r *impl.Row) { r.Suspects = slices.Clone(other) })
				all := !slices.ContainsFunc(one, func(who int64) bool { return !slices.Contains(other, who) })
				if got := impl.Follows(a, b, n); got != all {
					t.Fatalf("Suspects %v and then %v: Follows is %v", one, other, got)
				}
			}
		}
	}
}

// Promise 21: the greatest and the least numbers in each place.
func TestRowNumbersAtTheEnds(t *testing.T) {
	far := []int64{math.MinInt64, math.MinInt64 + 1, math.MinInt32, -1 << 32, 1 << 31, 1 << 32, 1<<32 + 1, math.MaxInt64 - 1, math.MaxInt64}
	for n := int64(1); n <= lastRow; n++ {
		for _, base := range []impl.Row{midRow(n), unready(midRow(n)), unwedged(midRow(n)), impl.NewRow(n)} {
			for _, x := range far {
				wrong := []impl.Row{
					changed(base, func(r *impl.Row) { r.Ver = x }),
					changed(base, func(r *impl.Row) { r.By = x }),
					changed(base, func(r *impl.Row) { r.Suspects = []int64{x} }),
					changed(base, func(r *impl.Row) { r.Suspects = append(firstNumbers(n), x) }),
					changed(base, func(r *impl.Row) { r.Suspects = append([]int64{x}, firstNumbers(n)...) }),
				}
				for place := range n {
					wrong = append(wrong, changed(base, func(r *impl.Row) { r.Got[place] = x }))
					wrong = append(wrong, changed(base, func(r *impl.Row) { r.Trim = repeated(1, int(n)); r.Trim[place] = x }))
				}
				for _, r := range wrong {
					checkNoRow(t, r)
				}
				checkRowOk(t, base, x)
				checkFollows(t, base, base, x)
				if got := impl.NewRow(x); !isZeroRow(got) {
					t.Fatalf("NewRow(%d) is %s", x, toldRow(got))
				}
				for _, y := range far {
					checkLater(t, impl.Row{Ver: x}, changed(base, func(r *impl.Row) { r.Ver = y }))
				}
			}
		}
	}
}

// Promise 21: very long lists and texts are refused as any others.
func TestVeryLongRows(t *testing.T) {
	text := strings.Repeat("x", 20000000)
	for _, base := range []impl.Row{midRow(3), unready(midRow(3)), unwedged(midRow(3))} {
		for _, length := range []int{255, 256, 257, 259, 65536 + 3, 1000000} {
			long := []impl.Row{base, base, base, base, base, base}
			long[0].Texts = repeatedText("", length)
			long[1].Got = repeated(1, length)
			long[2].Suspects = repeated(1, length)
			long[3].Suspects = firstNumbers(int64(length))
			long[4].Trim = repeated(1, length)
			long[5].Got, long[5].Trim = long[1].Got, long[4].Trim
			for _, r := range long {
				checkNoRow(t, r)
				if impl.RowOk(r, int64(length)) || impl.Follows(r, r, int64(length)) {
					t.Fatalf("%s is right of %d", toldRow(r), length)
				}
			}
		}
		for _, texts := range [][]string{{text}, append(repeatedText("", 11), text), repeatedText(text, 12), repeatedText(text, 13)} {
			r := base
			r.Texts = texts
			for _, n := range []int64{1, 3, 5} {
				if impl.RowOk(r, n) || impl.Follows(r, r, n) || impl.Follows(base, r, n) || impl.Follows(r, base, n) {
					t.Fatalf("a Row with %d Texts, one of 20000000 bytes, is right of %d", len(texts), n)
				}
			}
			if impl.Later(r, base) || !impl.Later(r, impl.NewRow(3)) {
				t.Fatal("Later of a Row with very long Texts is another one")
			}
		}
	}
}

// emptied has an empty list where there is none; niled the other way.
func emptied(r impl.Row) impl.Row {
	return changed(r, func(r *impl.Row) {
		r.Texts, r.Got = append([]string{}, r.Texts...), append([]int64{}, r.Got...)
		r.Suspects, r.Trim = append([]int64{}, r.Suspects...), append([]int64{}, r.Trim...)
	})
}

func niled(r impl.Row) impl.Row {
	return changed(r, func(r *impl.Row) {
		r.Texts, r.Got = append([]string(nil), r.Texts...), append([]int64(nil), r.Got...)
		r.Suspects, r.Trim = append([]int64(nil), r.Suspects...), append([]int64(nil), r.Trim...)
	})
}

func rowCases() []wrongRow {
	out := wrongRows()
	forSureRows(func(r impl.Row, n int64) { out = append(out, wrongRow{"right", n, r}) })
	return append(out, wrongRow{"zero", 1, impl.Row{}}, wrongRow{"zero", 0, impl.Row{}}, wrongRow{"zero but Ready", 2, impl.Row{Wedged: true, Ready: true}})
}

// Promise 21: an empty list and nil are the same.
func TestEmptyAndNilRows(t *testing.T) {
	for _, c := range rowCases() {
		for _, n := range []int64{c.n, 0, 1, 3} {
			want := isRow(c.row, n)
			if impl.RowOk(emptied(c.row), n) != want || impl.RowOk(niled(c.row), n) != want {
				t.Fatalf("%s: RowOk(%s, %d) is %v, with nil %v", c.why, toldRow(c.row), n, impl.RowOk(emptied(c.row), n), impl.RowOk(niled(c.row), n))
			}
			for _, a := range []impl.Row{emptied(c.row), niled(c.row)} {
				for _, b := range []impl.Row{emptied(c.row), niled(c.row), emptied(fullRow(c.n)), niled(fullRow(c.n))} {
					checkFollows(t, a, b, n)
					checkFollows(t, b, a, n)
				}
			}
		}
	}
}

// roomyRow has marked room behind each list.
func roomyRow(r impl.Row, text string, mark int64) impl.Row {
	r.Texts, r.Got = roomyWith(r.Texts, text), roomyWith(r.Got, mark)
	r.Suspects, r.Trim = roomyWith(r.Suspects, mark), roomyWith(r.Trim, mark)
	return r
}

// wholeRow has all that lies in the lists and in the room behind them.
func wholeRow(r impl.Row) impl.Row {
	r.Texts, r.Got, r.Suspects, r.Trim = whole(r.Texts), whole(r.Got), whole(r.Suspects), whole(r.Trim)
	return r
}

// Promise 21: arguments stay, and so does the spare room behind them.
func TestRowArgumentsStay(t *testing.T) {
	for _, c := range rowCases() {
		for _, other := range []impl.Row{c.row, midRow(max(1, c.n)), fullRow(max(1, c.n)), {}} {
			a, b := roomyRow(c.row, "spare", spareMark), roomyRow(other, "spare", spareMark)
			wasA, wasB := wholeRow(a), wholeRow(b)
			for _, n := range []int64{c.n, 0, 2, 6} {
				impl.RowOk(a, n)
				impl.Follows(a, b, n)
				impl.Follows(b, a, n)
			}
			impl.Later(a, b)
			if !alikeRow(wholeRow(a), wasA) || !alikeRow(wholeRow(b), wasB) {
				t.Fatalf("%s became %s, or %s became %s", toldRow(wasA), toldRow(wholeRow(a)), toldRow(wasB), toldRow(wholeRow(b)))
			}
		}
	}
}

// Promise 21: what lies in the spare room behind the lists is nobody's, also where it would go on well.
func TestTableRowsEndWhereTheyEnd(t *testing.T) {
	for _, c := range rowCases() {
		for _, mark := range []int64{spareMark, 0, 1, c.n - 1, math.MaxInt64} {
			for _, text := range []string{"", "a", strings.Repeat("s", 30)} {
				a := roomyRow(c.row, text, mark)
				checkRowOk(t, a, c.n)
				checkRowOk(t, a, c.n+1)
				checkFollows(t, a, roomyRow(fullRow(max(1, c.n)), text, mark), c.n)
				checkFollows(t, roomyRow(midRow(max(1, c.n)), text, mark), a, c.n)
			}
		}
	}
	// A Row that lost what still lies behind its lists does not Follow the one that has it.
	a := midRow(4)
	b := a
	b.Texts = a.Texts[:len(a.Texts)-1]
	c := a
	c.Suspects = a.Suspects[:len(a.Suspects)-1]
	if impl.Follows(a, b, 4) || impl.Follows(a, c, 4) || !impl.Follows(b, a, 4) || !impl.Follows(c, a, 4) {
		t.Fatalf("Follows of %s and one that is cut is wrong", toldRow(a))
	}
}

// Promise 21: writing over a new Row, and the room behind its lists, changes no other one.
func TestNewRowsAreNewMemory(t *testing.T) {
	for n := int64(-1); n <= 7; n++ {
		earlier := impl.NewRow(n)
		want := copiedRow(earlier)
		mine := impl.NewRow(n)
		for _, list := range [][]int64{mine.Got, mine.Suspects, mine.Trim} {
			scribble(list)
		}
		texts := mine.Texts[:cap(mine.Texts)]
		for i := range texts {
			texts[i] = "scribbled"
		}
		if !alikeRow(earlier, want) || !alikeRow(impl.NewRow(n), want) {
			t.Fatalf("NewRow(%d) shares memory with another one: %s and %s", n, toldRow(earlier), toldRow(impl.NewRow(n)))
		}
		// The lists of one answer are apart, too: what is put behind one does not come into another.
		one := impl.NewRow(n)
		one.Got, one.Suspects, one.Trim = append(one.Got, 1), append(one.Suspects, 2), append(one.Trim, 3)
		if !alikeRow(one, impl.Row{Got: append(want.Got, 1), Suspects: []int64{2}, Trim: []int64{3}}) {
			t.Fatalf("two lists of NewRow(%d) share memory: %s", n, toldRow(one))
		}
	}
}

// Lists of two Rows, and of one, may share memory: the answers are as those of lists apart.
func TestTableRowsThatShareMemory(t *testing.T) {
	base := []int64{0, 1, 2, 3, 4, 5, 6}
	was := slices.Clone(base)
	for n := int64(1); n <= lastRow; n++ {
		for first := range int64(len(base)) - n + 1 {
			part := base[first : first+n]
			for last := range n + 2 {
				a := impl.Row{Ver: 1, Got: part, Suspects: base[:last], Wedged: true, Ready: true, Trim: part}
				b := impl.Row{Ver: 2, Got: base[:n], Suspects: base[:n], Wedged: true, Ready: true, By: n - 1, Trim: base[:n]}
				checkRowOk(t, a, n)
				checkFollows(t, a, b, n)
				checkFollows(t, b, a, n)
				checkFollows(t, a, copiedRow(a), n)
			}
		}
	}
	if !slices.Equal(base, was) {
		t.Fatalf("%v became %v", was, base)
	}
}
