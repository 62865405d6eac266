package tests

import (
	"fmt"
	"math"
	"math/rand"
	"slices"
	"strconv"
	"strings"
	"testing"

	"loop.example/g00266/impl"
)

const (
	mostLogged    = 40
	longestLogged = 100
	lastFirst     = 1000000
)

func logWith(first int64, texts ...string) impl.Log {
	return impl.Log{First: first, Texts: texts}
}

func toldLog(l impl.Log) string {
	return fmt.Sprintf("{%d %s}", l.First, shortened(fmt.Sprintf("%q", l.Texts)))
}

func alikeLogs(a, b impl.Log) bool {
	return a.First == b.First && slices.Equal(a.Texts, b.Texts)
}

func isZeroLog(l impl.Log) bool { return alikeLogs(l, impl.Log{}) }

// copiedLog shares nothing with it, not even the bytes of a text.
func copiedLog(l impl.Log) impl.Log {
	out := logWith(l.First)
	for _, s := range l.Texts {
		out.Texts = append(out.Texts, strings.Clone(s))
	}
	return out
}

// isLog is what the document asks of a Log, word by word.
func isLog(l impl.Log) bool {
	isLong := func(s string) bool { return len(s) > longestLogged }
	return l.First >= 1 && l.First <= lastFirst && len(l.Texts) <= mostLogged && !slices.ContainsFunc(l.Texts, isLong)
}

// versionsOf are counted one by one.
func versionsOf(l impl.Log) []int64 {
	out := []int64{}
	for version := l.First; len(out) < len(l.Texts); version++ {
		out = append(out, version)
	}
	return out
}

func nextVersion(l impl.Log) int64 { return l.First + int64(len(l.Texts)) }

func addedTo(l impl.Log, version int64, text string) (impl.Log, bool) {
	if !isLog(l) {
		return impl.Log{}, false
	}
	longer := logWith(l.First, slices.Concat(l.Texts, []string{text})...)
	if version != nextVersion(l) || !isLog(longer) {
		return l, false
	}
	return longer, true
}

func textUnder(l impl.Log, version int64) (string, bool) {
	if !isLog(l) {
		return "", false
	}
	if at := slices.Index(versionsOf(l), version); at >= 0 {
		return l.Texts[at], true
	}
	return "", false
}

// shorterBy leaves one out at a time, and the last one that may lead stays.
func shorterBy(l impl.Log, below int64) impl.Log {
	if !isLog(l) {
		return impl.Log{}
	}
	out := copiedLog(l)
	for len(out.Texts) > 0 && out.First < below && out.First < lastFirst {
		out = logWith(out.First+1, out.Texts[1:]...)
	}
	return out
}

func cutTo(l impl.Log, above int64) impl.Log {
	if !isLog(l) {
		return impl.Log{}
	}
	out := logWith(l.First)
	for i, version := range versionsOf(l) {
		if version <= above {
			out.Texts = append(out.Texts, l.Texts[i])
		}
	}
	return out
}

func entry(version int64, text string) string { return fmt.Sprintf("%d %s", version, text) }

func shownAs(l impl.Log) string {
	if !isLog(l) {
		return ""
	}
	out := ""
	for i, version := range versionsOf(l) {
		out += framed(entry(version, l.Texts[i]))
	}
	return out
}

// recoveredFrom never reads a version: it asks for the one that must come.
func recoveredFrom(disk string, first int64) impl.Log {
	if first < 1 || first > lastFirst {
		return impl.Log{}
	}
	out := logWith(first)
	texts, _ := framesOf(disk)
	for _, s := range texts {
		text, ok := strings.CutPrefix(s, entry(nextVersion(out), ""))
		if !ok || len(text) > longestLogged || len(out.Texts) == mostLogged {
			break
		}
		out.Texts = append(out.Texts, text)
	}
	return out
}

func checkLogOk(t *testing.T, l impl.Log) {
	t.Helper()
	if got, want := impl.LogOk(l), isLog(l); got != want {
		t.Fatalf("LogOk(%s) is %v, not %v", toldLog(l), got, want)
	}
}

func checkAdded(t *testing.T, l impl.Log, version int64, text string) impl.Log {
	t.Helper()
	got, is := impl.Added(l, version, text)
	if want, wantIs := addedTo(l, version, text); !alikeLogs(got, want) || is != wantIs {
		t.Fatalf("Added(%s, %d, %s) is %s and %v, not %s and %v", toldLog(l), version, shortened(text), toldLog(got), is, toldLog(want), wantIs)
	}
	return got
}

func checkTextAt(t *testing.T, l impl.Log, version int64) {
	t.Helper()
	got, is := impl.TextAt(l, version)
	if want, wantIs := textUnder(l, version); got != want || is != wantIs {
		t.Fatalf("TextAt(%s, %d) is %s and %v, not %s and %v", toldLog(l), version, shortened(got), is, shortened(want), wantIs)
	}
}

func checkShorter(t *testing.T, l impl.Log, below int64) impl.Log {
	t.Helper()
	got := impl.Shorter(l, below)
	if want := shorterBy(l, below); !alikeLogs(got, want) {
		t.Fatalf("Shorter(%s, %d) is %s, not %s", toldLog(l), below, toldLog(got), toldLog(want))
	}
	return got
}

func checkCutLog(t *testing.T, l impl.Log, above int64) impl.Log {
	t.Helper()
	got := impl.Cut(l, above)
	if want := cutTo(l, above); !alikeLogs(got, want) {
		t.Fatalf("Cut(%s, %d) is %s, not %s", toldLog(l), above, toldLog(got), toldLog(want))
	}
	return got
}

func checkShown(t *testing.T, l impl.Log) string {
	t.Helper()
	got := impl.ShowLog(l)
	if want := shownAs(l); got != want {
		t.Fatalf("ShowLog(%s) is %s, not %s", toldLog(l), shortened(got), shortened(want))
	}
	return got
}

func checkRecovered(t *testing.T, disk string, first int64) {
	t.Helper()
	if got, want := impl.Recovered(disk, first), recoveredFrom(disk, first); !alikeLogs(got, want) {
		t.Fatalf("Recovered(%s, %d) is %s, not %s", shortened(disk), first, toldLog(got), toldLog(want))
	}
}

// checkComesBack is without any rule of the tests' own: just these texts, under this First.
func checkComesBack(t *testing.T, disk string, first int64, texts ...string) {
	t.Helper()
	if got := impl.Recovered(disk, first); !alikeLogs(got, logWith(first, texts...)) {
		t.Fatalf("Recovered(%s, %d) is %s, not %s", shortened(disk), first, toldLog(got), toldLog(logWith(first, texts...)))
	}
}

// logTexts are of every kind that may be logged: without a byte, with blanks at the ends, such as look like a version or a Frame, with bytes that are no runes, up to the limit.
func logTexts() []string {
	lot := rand.New(rand.NewSource(12))
	out := []string{"", "a", "bc", " ", "  ", " a", "a ", " a ", "a b", "\n", "\n\n", "\x00", "\xff\xfe", "ä€", "0", "1", "4", "5", "4 ", " 4", "4 a", "5 bc", "04", "-1", "+1", "1000000", "1000001 x",
		"0 11\n\n", framed("hey"), framed("4 a"), framed("5 "), framed("5 a")[:7], "\n" + framed("5 bc"), "x\n" + framed("6 x") + framed("7 y"),
		strings.Repeat(" ", longestLogged), strings.Repeat("\n", longestLogged), strings.Repeat("9", longestLogged), strings.Repeat("\xff", longestLogged), strings.Repeat("\x00", 99), strings.Repeat("€", 33)}
	for range 20 {
		out = append(out, drawnText(lot, lot.Intn(longestLogged+1)), drawnMarks(lot, lot.Intn(longestLogged+1)))
	}
	return out
}

// countedTexts are that many, no two alike.
func countedTexts(count int) []string {
	out := []string{}
	for i := range count {
		out = append(out, fmt.Sprintf("text %d", i))
	}
	return out
}

func drawnLog(lot *rand.Rand, kinds []string) impl.Log {
	l := logWith(1 + lot.Int63n(lastFirst))
	switch lot.Intn(4) {
	case 0:
		l.First = 1 + lot.Int63n(12)
	case 1:
		l.First = lastFirst - lot.Int63n(42)
	}
	for range lot.Intn(mostLogged + 1) {
		l.Texts = append(l.Texts, kinds[lot.Intn(len(kinds))])
	}
	return l
}

// rightLogs have First where digits are won and at both ends, and all lengths that matter.
func rightLogs() []impl.Log {
	out := []impl.Log{}
	for _, first := range []int64{1, 2, 4, 8, 9, 10, 80, 99, 100, 998, 99990, 123456, 999900, 999960, 999961, 999970, 999997, 999998, 999999, 1000000} {
		for _, count := range []int{0, 1, 2, 3, 11, 39, 40} {
			out = append(out, logWith(first, countedTexts(count)...))
		}
	}
	lot := rand.New(rand.NewSource(121))
	for range 60 {
		out = append(out, drawnLog(lot, logTexts()))
	}
	return out
}

// wrongLogs have one thing each that is not as told, and some have all.
func wrongLogs() []impl.Log {
	long := strings.Repeat("x", longestLogged+1)
	out := []impl.Log{{}, logWith(0, "a"), logWith(4, long), logWith(4, "a", long), logWith(4, long, "a"), logWith(4, strings.Repeat("ä", 51)), logWith(4, countedTexts(41)...), logWith(lastFirst, countedTexts(41)...), logWith(4, make([]string, 41)...), logWith(4, make([]string, 80)...), logWith(0, append(countedTexts(41), long)...)}
	for _, first := range []int64{0, -1, -4, lastFirst + 1, lastFirst + 2, 1 << 31, 1 << 32, 1<<32 + 4, math.MinInt64, math.MinInt64 + 1, math.MaxInt64 - 40, math.MaxInt64 - 1, math.MaxInt64} {
		out = append(out, logWith(first), logWith(first, "a"), logWith(first, countedTexts(40)...))
	}
	for place := range mostLogged {
		texts := countedTexts(mostLogged)
		texts[place] = long
		out = append(out, logWith(4, texts...))
	}
	return out
}

// askedVersions are each of the log, some around it, and some far away.
func askedVersions(l impl.Log) []int64 {
	out := []int64{math.MinInt64, math.MinInt64 + 1, math.MinInt64 + 40, -1 << 32, -lastFirst, -1, 0, 1, 39, 40, 41, lastFirst - 1, lastFirst, lastFirst + 1, lastFirst + 40, 1 << 31, 1 << 32, math.MaxInt64 - 40, math.MaxInt64 - 1, math.MaxInt64}
	if !isLog(l) {
		return append(out, l.First)
	}
	for version := l.First - 3; version <= nextVersion(l)+3; version++ {
		out = append(out, version, -version, version+1<<32, version-1<<32)
	}
	return out
}

func TestLogOkAtTheEdges(t *testing.T) {
	for _, l := range rightLogs() {
		if !impl.LogOk(l) {
			t.Fatalf("%s is not LogOk", toldLog(l))
		}
	}
	for _, l := range wrongLogs() {
		if impl.LogOk(l) {
			t.Fatalf("%s is LogOk", toldLog(l))
		}
	}
	for _, first := range []int64{math.MinInt64, -1, 0, 1, 2, lastFirst - 1, lastFirst, lastFirst + 1, math.MaxInt64} {
		for _, count := range []int{0, 1, 39, 40, 41, 42} {
			checkLogOk(t, logWith(first, countedTexts(count)...))
			for _, length := range []int{0, 99, 100, 101, 102, 200} {
				checkLogOk(t, logWith(first, append(countedTexts(count), strings.Repeat("y", length))...))
				checkLogOk(t, logWith(first, append([]string{strings.Repeat("\n", length)}, countedTexts(count)...)...))
			}
		}
	}
}

// What is Added is there under its version, and all before it stays; until there is no room.
func TestAddedOneByOne(t *testing.T) {
	for _, first := range []int64{1, 4, 9, 99, lastFirst - 39, lastFirst - 1, lastFirst} {
		for shift := range 3 {
			l := logWith(first)
			kinds := logTexts()[20*shift:]
			for i := range int64(mostLogged) {
				before := copiedLog(l)
				longer, is := impl.Added(l, first+i, kinds[i%int64(len(kinds))])
				if !is || longer.First != first || int64(len(longer.Texts)) != i+1 || !impl.LogOk(longer) {
					t.Fatalf("Added(%s, %d, ..) is %s and %v", toldLog(l), first+i, toldLog(longer), is)
				}
				for k := range i {
					was, isWas := impl.TextAt(before, first+k)
					if now, isNow := impl.TextAt(longer, first+k); now != was || !isNow || !isWas {
						t.Fatalf("version %d of %s became %s", first+k, toldLog(before), shortened(now))
					}
				}
				if text, is := impl.TextAt(longer, first+i); !is || text != kinds[i%int64(len(kinds))] {
					t.Fatalf("version %d of %s is %s and %v", first+i, toldLog(longer), shortened(text), is)
				}
				l = longer
			}
			if full, is := impl.Added(l, first+mostLogged, "x"); is || !alikeLogs(full, l) {
				t.Fatalf("Added(%s, %d, x) is %s and %v", toldLog(l), first+mostLogged, toldLog(full), is)
			}
		}
	}
}

func TestAddedRefuses(t *testing.T) {
	for _, l := range rightLogs() {
		for _, version := range askedVersions(l) {
			for _, text := range []string{"", "x", strings.Repeat("y", 100), strings.Repeat("z", 101)} {
				checkAdded(t, l, version, text)
			}
		}
		next := nextVersion(l)
		for _, off := range []int64{-40, -2, -1, 1, 2, 40} {
			if got, is := impl.Added(l, next+off, "x"); is || !alikeLogs(got, l) {
				t.Fatalf("Added(%s, %d, x) is %s and %v", toldLog(l), next+off, toldLog(got), is)
			}
		}
		for _, length := range []int{101, 102, 200, 2000, 65536 + 100} {
			if got, is := impl.Added(l, next, strings.Repeat("z", length)); is || !alikeLogs(got, l) {
				t.Fatalf("Added(%s, %d, %d bytes) is %s and %v", toldLog(l), next, length, toldLog(got), is)
			}
		}
	}
}

// The limits count bytes, not runes.
func TestLoggedTextsAreBytes(t *testing.T) {
	if _, is := impl.Added(logWith(1), 1, strings.Repeat("ä", 50)); !is {
		t.Error("a text of 100 bytes is not Added")
	}
	if _, is := impl.Added(logWith(1), 1, strings.Repeat("ä", 50)+"x"); is {
		t.Error("a text of 101 bytes is Added")
	}
	if impl.LogOk(logWith(1, strings.Repeat("ä", 51))) || !impl.LogOk(logWith(1, strings.Repeat("ä", 50))) {
		t.Error("LogOk counts something else than bytes")
	}
}

func TestTextAtEachVersion(t *testing.T) {
	for _, l := range rightLogs() {
		for _, version := range askedVersions(l) {
			checkTextAt(t, l, version)
		}
		for i, text := range l.Texts {
			if got, is := impl.TextAt(l, l.First+int64(i)); !is || got != text {
				t.Fatalf("TextAt(%s, %d) is %s and %v", toldLog(l), l.First+int64(i), shortened(got), is)
			}
		}
		for _, version := range []int64{l.First - 1, nextVersion(l)} {
			if got, is := impl.TextAt(l, version); is || got != "" {
				t.Fatalf("TextAt(%s, %d) is %s and %v", toldLog(l), version, shortened(got), is)
			}
		}
	}
}

func TestShorterAndCutAtEachVersion(t *testing.T) {
	for _, l := range rightLogs() {
		for _, version := range askedVersions(l) {
			left, right := checkCutLog(t, l, version), checkShorter(t, l, version)
			if !impl.LogOk(left) || !impl.LogOk(right) {
				t.Fatalf("Cut or Shorter(%s, %d) is not LogOk", toldLog(l), version)
			}
			// Whatever is left has the version that it had.
			for _, part := range []impl.Log{left, right} {
				for _, k := range versionsOf(part) {
					was, _ := impl.TextAt(l, k)
					if got, is := impl.TextAt(part, k); !is || got != was {
						t.Fatalf("version %d of %s became %s", k, toldLog(l), shortened(got))
					}
				}
			}
		}
	}
}

// One is in just one of both parts, where First of the second one is not held back.
func TestShorterAndCutAreTheWholeLog(t *testing.T) {
	for _, l := range rightLogs() {
		for version := l.First; version <= min(nextVersion(l), lastFirst); version++ {
			left, right := impl.Cut(l, version-1), impl.Shorter(l, version)
			if left.First != l.First || right.First != version || nextVersion(left) != version || !slices.Equal(slices.Concat(left.Texts, right.Texts), l.Texts) {
				t.Fatalf("%s is cut at %d into %s and %s", toldLog(l), version, toldLog(left), toldLog(right))
			}
		}
	}
}

func TestShorterAndCutWrittenOut(t *testing.T) {
	l := logWith(4, "a", "b", "c")
	late := logWith(999999, "a", "b", "c")
	last := logWith(1000000, "a", "b")
	cases := []struct {
		got, want impl.Log
	}{
		{impl.Shorter(l, 3), l},
		{impl.Shorter(l, 4), l},
		{impl.Shorter(l, 5), logWith(5, "b", "c")},
		{impl.Shorter(l, 6), logWith(6, "c")},
		{impl.Shorter(l, 7), logWith(7)},
		{impl.Shorter(l, 8), logWith(7)},
		{impl.Shorter(l, 1000001), logWith(7)},
		{impl.Shorter(logWith(4), 3), logWith(4)},
		{impl.Shorter(logWith(4), 4), logWith(4)},
		{impl.Shorter(logWith(4), 9), logWith(4)},
		{impl.Shorter(late, 999999), late},
		{impl.Shorter(late, 1000000), logWith(1000000, "b", "c")},
		{impl.Shorter(late, 1000001), logWith(1000000, "b", "c")},
		{impl.Shorter(late, 1000002), logWith(1000000, "b", "c")},
		{impl.Shorter(late, 1000009), logWith(1000000, "b", "c")},
		{impl.Shorter(last, 1000000), last},
		{impl.Shorter(last, 1000001), last},
		{impl.Shorter(last, 1000009), last},
		{impl.Shorter(logWith(999999, "a"), 1000000), logWith(1000000)},
		{impl.Shorter(logWith(999999, "a"), 1000009), logWith(1000000)},
		{impl.Shorter(logWith(1000000), 1000009), logWith(1000000)},
		{impl.Cut(l, 3), logWith(4)},
		{impl.Cut(l, 4), logWith(4, "a")},
		{impl.Cut(l, 5), logWith(4, "a", "b")},
		{impl.Cut(l, 6), l},
		{impl.Cut(l, 7), l},
		{impl.Cut(l, 1), logWith(4)},
		{impl.Cut(logWith(4), 3), logWith(4)},
		{impl.Cut(logWith(4), 9), logWith(4)},
		{impl.Cut(late, 999998), logWith(999999)},
		{impl.Cut(late, 1000000), logWith(999999, "a", "b")},
		{impl.Cut(late, 1000001), late},
		{impl.Cut(last, 1000000), logWith(1000000, "a")},
		{impl.Cut(last, 999999), logWith(1000000)},
	}
	for i, c := range cases {
		if !alikeLogs(c.got, c.want) {
			t.Errorf("case %d is %s, not %s", i, toldLog(c.got), toldLog(c.want))
		}
	}
}

// Versions go on above MaxCount, so a log that begins there can be Added to, shown and recovered as any other one.
func TestLogsThatEndAboveMaxCount(t *testing.T) {
	for first := int64(lastFirst - 45); first <= lastFirst; first++ {
		for _, count := range []int{0, 1, 5, 39, 40} {
			l := logWith(first, countedTexts(count)...)
			for version := first - 1; version <= nextVersion(l)+1; version++ {
				got := checkShorter(t, l, version)
				if got.First > lastFirst || !impl.LogOk(got) || nextVersion(got) != nextVersion(l) {
					t.Fatalf("Shorter(%s, %d) is %s", toldLog(l), version, toldLog(got))
				}
				checkComesBack(t, impl.ShowLog(got), got.First, got.Texts...)
				checkCutLog(t, l, version)
				checkTextAt(t, l, version)
				checkAdded(t, l, version, "x")
			}
		}
	}
}

func TestShowLogWrittenOut(t *testing.T) {
	cases := []struct {
		l    impl.Log
		want string
	}{
		{logWith(4), ""},
		{logWith(4, "a"), "3 629652\n4 a\n"},
		{logWith(4, "a", "bc"), "3 629652\n4 a\n4 348304\n5 bc\n"},
		{logWith(4, ""), "2 " + strconv.FormatInt(checked("4 "), 10) + "\n4 \n"},
		{logWith(9, "", " ", "\n"), framed("9 ") + framed("10  ") + framed("11 \n")},
		{logWith(1000000, "x", "y"), framed("1000000 x") + framed("1000001 y")},
	}
	for _, c := range cases {
		if got := impl.ShowLog(c.l); got != c.want {
			t.Errorf("ShowLog(%s) is %q, not %q", toldLog(c.l), got, c.want)
		}
	}
}

// Promise 12: with the same First it is the log.
func TestRecoveredOfShowLogIsTheLog(t *testing.T) {
	for _, l := range rightLogs() {
		disk := checkShown(t, l)
		checkComesBack(t, disk, l.First, l.Texts...)
		for _, first := range []int64{1, l.First - 1, l.First + 1, nextVersion(l), lastFirst} {
			if first != l.First && first >= 1 && first <= lastFirst {
				checkComesBack(t, disk, first)
			}
		}
	}
	lot := rand.New(rand.NewSource(122))
	for range 2000 {
		l := drawnLog(lot, logTexts())
		checkComesBack(t, checkShown(t, l), l.First, l.Texts...)
	}
}

// Promise 12: cut at each byte it is a first part, with just those that are whole.
func TestRecoveredOfAPartIsAFirstPart(t *testing.T) {
	for _, l := range rightLogs() {
		disk := impl.ShowLog(l)
		ends := []int{}
		for i, version := range versionsOf(l) {
			ends = append(ends, len(framed(entry(version, l.Texts[i]))))
			if i > 0 {
				ends[i] += ends[i-1]
			}
		}
		for bytes := range len(disk) + 1 {
			count := 0
			for count < len(ends) && ends[count] <= bytes {
				count++
			}
			checkComesBack(t, disk[:bytes], l.First, l.Texts[:count]...)
		}
	}
}

// Promise 12: what is left of a log by Shorter and Cut is a log as any other, and so is what is Added to what came back.
func TestRecoveredGoesOn(t *testing.T) {
	lot := rand.New(rand.NewSource(123))
	for range 300 {
		l := drawnLog(lot, logTexts())
		next := nextVersion(l)
		for _, part := range []impl.Log{impl.Cut(l, l.First+lot.Int63n(42)-1), impl.Shorter(l, l.First+lot.Int63n(42)-1)} {
			checkComesBack(t, impl.ShowLog(part), part.First, part.Texts...)
			back := impl.Recovered(impl.ShowLog(part), part.First)
			checkAdded(t, back, next, "more")
			checkAdded(t, back, nextVersion(back), "more")
		}
		// A disk is written on where it was torn: half a Frame hides what comes behind it.
		if len(l.Texts) < mostLogged {
			disk, more := impl.ShowLog(l), framed(entry(next, "more"))
			for bytes := range len(more) {
				torn := impl.Torn(disk, int64(len(disk)), more, int64(bytes))
				checkComesBack(t, torn, l.First, l.Texts...)
			}
			checkComesBack(t, disk+more, l.First, append(slices.Clone(l.Texts), "more")...)
		}
	}
}

func TestLogsWithEveryByte(t *testing.T) {
	for b := range 256 {
		c := string([]byte{byte(b)})
		texts := []string{c, "", c + c, "a" + c, c + "a", "a" + c + "b", strings.Repeat(c, 100), c + "5 x", "8 " + c, framed("9 " + c)}
		for _, first := range []int64{1, 4, 97, 999996, lastFirst} {
			l := logWith(first, texts...)
			checkComesBack(t, checkShown(t, l), first, texts...)
			for i, version := range versionsOf(l) {
				checkTextAt(t, l, version)
				checkComesBack(t, framedAll([]string{entry(first, "ahead"), entry(first+1, texts[i])}), first, "ahead", texts[i])
			}
		}
		// No other byte than a blank ends a version.
		want := []string{"ahead"}
		if c == " " {
			want = append(want, "x")
		}
		checkComesBack(t, framedAll([]string{"4 ahead", "5" + c + "x"}), 4, want...)
		for _, s := range []string{c + "5 x", c + " x", "5" + c + " x", "5" + c, c} {
			checkRecovered(t, framedAll([]string{"4 ahead", s, "6 y"}), 4)
		}
	}
}

// checkEnds: a Frame of this text ends what comes back, whatever stands ahead of it and behind it.
func checkEnds(t *testing.T, first int64, ahead int, wrong string) {
	t.Helper()
	texts := countedTexts(ahead)
	disk := shownAs(logWith(first, texts...)) + framed(wrong)
	next := first + int64(ahead)
	for _, behind := range []string{"", framed(entry(next, "x")), framed(entry(next+1, "x")), framed(entry(next, "x")) + framed(entry(next+1, "y")), framed(wrong), "x"} {
		checkComesBack(t, disk+behind, first, texts...)
	}
}

func TestRecoveredEndsAtAnotherVersion(t *testing.T) {
	for _, first := range []int64{1, 2, 4, 8, 9, 10, 98, 999960, lastFirst - 1, lastFirst} {
		for _, ahead := range []int{0, 1, 2, 5, 39} {
			next := first + int64(ahead)
			for _, off := range []int64{-40, -2, -1, 1, 2, 10, 40, 256, 65536, 1 << 32, -1 << 32} {
				for _, text := range []string{"", "x", entry(next, "x")} {
					checkEnds(t, first, ahead, entry(next+off, text))
				}
			}
			for _, version := range []int64{0, -1, -next, math.MinInt64, math.MaxInt64, 999999999, 1000000000, 10 * next} {
				checkEnds(t, first, ahead, entry(version, "x"))
			}
		}
	}
}

func TestRecoveredEndsAtAVersionOfAnotherForm(t *testing.T) {
	for _, first := range []int64{1, 4, 9, 100, 999990, lastFirst} {
		for _, ahead := range []int{0, 1, 3} {
			next := first + int64(ahead)
			number := strconv.FormatInt(next, 10)
			for _, version := range wrongNumbers(next) {
				// With a blank at its end it is the version, and a text that begins with one.
				if version == number+" " {
					continue
				}
				for _, text := range []string{"", "x", " ", entry(next, "x")} {
					checkEnds(t, first, ahead, version+" "+text)
				}
			}
			for _, wrong := range []string{"", " ", "  ", "x", number, number + "\n", number + "x", number + "\tx", number + "\nx", number + "\x00x", number + "\xa0x", number + ":x", "x " + number, "\n" + number + " x", " " + number + " x", number + "," + number + " x", "x" + number + " x", framed(entry(next, "x"))} {
				checkEnds(t, first, ahead, wrong)
			}
			checkComesBack(t, shownAs(logWith(first, countedTexts(ahead)...))+framed(number+"  x"), first, append(countedTexts(ahead), " x")...)
		}
	}
}

// A byte that is no digit is none, though what it is above or below the byte 48 would make the version.
func TestRecoveredReadsDigitsAlone(t *testing.T) {
	for b := range 256 {
		c := string([]byte{byte(b)})
		for _, worth := range []int64{int64(b), int64(b) - 48, int64(byte(b - 48)), int64(int8(b - 48))} {
			for _, first := range []int64{worth, 10 + worth, 10*worth + 1, 120 + worth, 110*worth + 7} {
				for _, version := range []string{c, "1" + c, c + "1", "12" + c, c + c + "7"} {
					checkRecovered(t, framed(version+" x"), first)
				}
			}
		}
	}
}

// Digits alone, none of them wrong by itself: up to 9 of them, and so many that a sum wraps round.
func TestRecoveredOfManyDigits(t *testing.T) {
	for digits := 1; digits <= 30; digits++ {
		for _, digit := range []string{"1", "5", "9"} {
			version := strings.Repeat(digit, digits)
			for _, first := range []int64{1, 5, 9, 11, 55, 99, 111, 555, 999, 1111, 55555, 555555, 999999, lastFirst} {
				checkRecovered(t, framed(version+" x")+framed("6 y")+framed("2 y"), first)
				checkRecovered(t, framed(version), first)
			}
		}
	}
	for _, version := range []string{"18446744073709551617", "18446744073709551616", "4294967297", "340282366920938463463374607431768211457", "1000000001", "9223372036854775809", "10000000000000000000000000000001"} {
		checkEnds(t, 1, 0, version+" x")
		checkEnds(t, 1, 1, version[:len(version)-1]+"2 x")
	}
}

func TestRecoveredAtItsLimits(t *testing.T) {
	for _, first := range []int64{1, 4, 999990, lastFirst} {
		// A disk may hold more than a log has room for.
		for _, more := range []int64{1, 2, 41, 500} {
			disk := shownAs(logWith(first, countedTexts(40)...))
			for i := range more {
				disk += framed(entry(first+40+i, "more"))
			}
			checkComesBack(t, disk, first, countedTexts(40)...)
			for bytes := len(disk) - 60; bytes < len(disk); bytes++ {
				checkRecovered(t, disk[:bytes], first)
			}
		}
		for _, ahead := range []int{0, 1, 38, 39} {
			texts := countedTexts(ahead)
			shown := shownAs(logWith(first, texts...))
			next := first + int64(ahead)
			for _, length := range []int{0, 1, 99, 100} {
				text := strings.Repeat("x", length)
				checkComesBack(t, shown+framed(entry(next, text)), first, append(slices.Clone(texts), text)...)
			}
			for _, length := range []int{101, 102, 256, 1000, 1992} {
				checkEnds(t, first, ahead, entry(next, strings.Repeat("x", length)))
				checkEnds(t, first, ahead, entry(next, strings.Repeat(" ", length)))
			}
		}
	}
}

func TestRecoveredOfAFirstOutOfRange(t *testing.T) {
	disks := []string{"", framed("0 x"), framed("-1 x"), framed("1 x"), framed("1000001 x"), framed("1000000 x") + framed("1000001 y"), framed(entry(math.MaxInt64, "x")), framed(entry(math.MinInt64, "x")), framed("hey"), "no frame"}
	for _, disk := range disks {
		for _, first := range []int64{0, -1, lastFirst + 1, lastFirst + 2, 1 << 32, 1<<32 + 1, math.MinInt64, math.MinInt64 + 1, math.MaxInt64 - 1, math.MaxInt64} {
			if got := impl.Recovered(disk, first); !isZeroLog(got) {
				t.Fatalf("Recovered(%s, %d) is %s", shortened(disk), first, toldLog(got))
			}
		}
		for _, first := range []int64{1, 2, lastFirst - 1, lastFirst} {
			checkRecovered(t, disk, first)
		}
	}
	checkComesBack(t, "", 1)
	checkComesBack(t, "", lastFirst)
	checkComesBack(t, framed("1 x"), 1, "x")
	checkComesBack(t, framed("1000000 x")+framed("1000001 y"), lastFirst, "x", "y")
}

// Each byte of a disk changed into each other one, left out, and doubled.
func TestShownLogWithOneByteWrong(t *testing.T) {
	l := logWith(9, "a", "", "10 ")
	disk := impl.ShowLog(l)
	for i := range len(disk) {
		for b := range 256 {
			checkRecovered(t, disk[:i]+string([]byte{byte(b)})+disk[i+1:], 9)
		}
		checkRecovered(t, disk[:i]+disk[i+1:], 9)
		checkRecovered(t, disk[:i+1]+disk[i:], 9)
		checkRecovered(t, disk[i:], 9)
	}
}

// All disks of at most three Frames out of these.
func TestAllSmallLogDisks(t *testing.T) {
	some := []string{"1 a", "2 b", "2 ", "3  ", "3 c", "01 a", "1", "1a", "", " ", "+2 x", "-1 x", "12 x", "2\nx", "2 2 x"}
	for length := range 4 {
		for _, list := range allLists(length, some...) {
			for _, first := range []int64{1, 2, 3, 12} {
				checkRecovered(t, framedAll(list), first)
			}
		}
	}
	for length := range 6 {
		for _, list := range allLists[byte](length, '0', '1', '2', ' ') {
			for _, first := range []int64{1, 2, 11, 12, 21, 100} {
				checkRecovered(t, framed(string(list)), first)
			}
		}
	}
}

// checkNoLog is the answer of each function to what is no Log.
func checkNoLog(t *testing.T, l impl.Log, version int64, text string) {
	t.Helper()
	if impl.LogOk(l) {
		t.Fatalf("LogOk(%s)", toldLog(l))
	}
	if got, is := impl.Added(l, version, text); is || !isZeroLog(got) {
		t.Fatalf("Added(%s, %d, %s) is %s and %v", toldLog(l), version, shortened(text), toldLog(got), is)
	}
	if got, is := impl.TextAt(l, version); is || got != "" {
		t.Fatalf("TextAt(%s, %d) is %s and %v", toldLog(l), version, shortened(got), is)
	}
	if got := impl.Shorter(l, version); !isZeroLog(got) {
		t.Fatalf("Shorter(%s, %d) is %s", toldLog(l), version, toldLog(got))
	}
	if got := impl.Cut(l, version); !isZeroLog(got) {
		t.Fatalf("Cut(%s, %d) is %s", toldLog(l), version, toldLog(got))
	}
	if got := impl.ShowLog(l); got != "" {
		t.Fatalf("ShowLog(%s) is %s", toldLog(l), shortened(got))
	}
}

func TestWhatIsNoLog(t *testing.T) {
	for _, l := range wrongLogs() {
		versions := append(askedVersions(l), l.First-1, l.First+1, l.First+int64(len(l.Texts))-1, l.First+int64(len(l.Texts)), 4, 5, 44)
		for _, version := range versions {
			for _, text := range []string{"", "x", strings.Repeat("y", 101)} {
				checkNoLog(t, l, version, text)
			}
		}
	}
}

// Promise 21: the greatest and the least numbers in each place.
func TestLogNumbersAtTheEnds(t *testing.T) {
	far := []int64{math.MinInt64, math.MinInt64 + 1, -1, 0, 1, 2, lastFirst, lastFirst + 1, lastFirst + 40, math.MaxInt64 - 40, math.MaxInt64 - 1, math.MaxInt64}
	for _, first := range far {
		for _, count := range []int{0, 1, 2, 40, 41} {
			l := logWith(first, countedTexts(count)...)
			checkLogOk(t, l)
			checkShown(t, l)
			for _, version := range far {
				checkAdded(t, l, version, "x")
				checkTextAt(t, l, version)
				checkShorter(t, l, version)
				checkCutLog(t, l, version)
				for _, asked := range far {
					checkRecovered(t, framed(entry(first, "x"))+framed(entry(version, "y")), asked)
				}
			}
		}
	}
}

// Promise 21: very long lists, texts and disks have their answers as any other ones.
func TestVeryLongLogsTextsAndDisks(t *testing.T) {
	text := strings.Repeat("x", 20000000)
	for _, l := range []impl.Log{logWith(4, slices.Repeat([]string{"a"}, 2000000)...), logWith(4, text), logWith(4, slices.Repeat([]string{text}, 41)...), logWith(4, append(countedTexts(39), text)...)} {
		for _, version := range []int64{3, 4, 5, 44, 2000004, math.MaxInt64} {
			checkNoLog(t, l, version, "x")
			checkNoLog(t, l, version, text)
		}
	}
	for _, l := range []impl.Log{logWith(4), logWith(4, "a"), logWith(4, countedTexts(40)...)} {
		if got, is := impl.Added(l, nextVersion(l), text); is || !alikeLogs(got, l) {
			t.Fatalf("Added(%s, %d, ..) is %s and %v", toldLog(l), nextVersion(l), toldLog(got), is)
		}
	}
	shown := shownAs(logWith(4, countedTexts(40)...))
	for _, behind := range []string{text, strings.Repeat("\n", 20000000), strings.Repeat("0 11\n\n", 3000000), strings.Repeat(framed("44 x"), 1000000), strings.Repeat("4", 20000000), strings.Repeat(" ", 20000000)} {
		checkComesBack(t, behind, 4)
		checkComesBack(t, shown+behind, 4, countedTexts(40)...)
		checkComesBack(t, framed("4 a")+behind, 4, "a")
	}
	checkComesBack(t, strings.Repeat(framed("4 a"), 1000000), 4, "a")
}

type logAnswer struct {
	logs  []impl.Log
	texts []string
}

// logAnswers are of every kind, also such as are as they were.
func logAnswers(l impl.Log, text, disk string) logAnswer {
	var out logAnswer
	for _, version := range []int64{nextVersion(l), nextVersion(l) - 1} {
		longer, _ := impl.Added(l, version, text)
		out.logs = append(out.logs, longer)
	}
	for _, version := range []int64{0, l.First, l.First + 1, nextVersion(l) - 1, nextVersion(l)} {
		at, _ := impl.TextAt(l, version)
		out.texts = append(out.texts, at)
		out.logs = append(out.logs, impl.Shorter(l, version), impl.Cut(l, version))
	}
	out.texts = append(out.texts, impl.ShowLog(l))
	out.logs = append(out.logs, impl.Recovered(disk, l.First))
	return out
}

func (a logAnswer) allTexts() []string {
	out := slices.Clone(a.texts)
	for _, l := range a.logs {
		out = append(out, l.Texts...)
	}
	return out
}

func (a logAnswer) copied() logAnswer {
	var out logAnswer
	for _, l := range a.logs {
		out.logs = append(out.logs, copiedLog(l))
	}
	for _, s := range a.texts {
		out.texts = append(out.texts, strings.Clone(s))
	}
	return out
}

func (a logAnswer) isAlike(b logAnswer) bool {
	return slices.EqualFunc(a.logs, b.logs, alikeLogs) && slices.Equal(a.texts, b.texts)
}

func logCases() []impl.Log {
	lot := rand.New(rand.NewSource(124))
	long := strings.Repeat("x", 101)
	out := []impl.Log{{}, logWith(4), logWith(4, ""), logWith(4, "a"), logWith(4, "a", "", "bc"), logWith(0, "a"), logWith(lastFirst+1, "a"), logWith(4, "a", long), logWith(4, countedTexts(39)...), logWith(4, countedTexts(40)...), logWith(4, countedTexts(41)...), logWith(lastFirst, "a", "b", "c")}
	for range 12 {
		l := drawnLog(lot, logTexts())
		out = append(out, logWith(l.First, l.Texts[:min(len(l.Texts), 8)]...))
	}
	return out
}

// Promise 21: arguments stay, and so does the spare room behind them; and no answer changes when the bytes of an argument do.
func TestLogArgumentsStayAndAreNotShared(t *testing.T) {
	for _, l := range logCases() {
		bytes := [][]byte{}
		lent := logWith(l.First)
		for _, s := range append(slices.Clone(l.Texts), "more", shownAs(l)) {
			bytes = append(bytes, roomyWith([]byte(s), 'm'))
		}
		for i := range l.Texts {
			lent.Texts = append(lent.Texts, written(bytes[i]))
		}
		lent.Texts = roomyWith(lent.Texts, "spare")
		text, disk := written(bytes[len(l.Texts)]), written(bytes[len(l.Texts)+1])
		was := [][]byte{}
		for _, b := range bytes {
			was = append(was, whole(b))
		}
		wasTexts := copiedLog(impl.Log{Texts: whole(lent.Texts)}).Texts
		answer := logAnswers(lent, text, disk)
		if lent.First != l.First || !slices.Equal(whole(lent.Texts), wasTexts) {
			t.Fatalf("%s became %s", toldLog(l), toldLog(logWith(lent.First, whole(lent.Texts)...)))
		}
		for i, b := range bytes {
			if !slices.Equal(whole(b), was[i]) {
				t.Fatalf("of %s: text %d or what is behind it changed", toldLog(l), i)
			}
		}
		want := answer.copied()
		for _, b := range bytes {
			for i := range b {
				b[i] ^= 0x55
			}
		}
		if !answer.isAlike(want) {
			t.Fatalf("of %s: an answer shares memory with an argument", toldLog(l))
		}
	}
}

// Promise 21: no text of an answer has a byte of memory in common with one of an argument or of any answer.
func TestLogTextsAreNewMemory(t *testing.T) {
	for _, l := range logCases() {
		lent := copiedLog(l)
		disk, text := shownAs(l), strings.Clone("more")
		all := slices.Concat(logAnswers(lent, text, disk).allTexts(), logAnswers(lent, text, disk).allTexts())
		given := append(slices.Clone(lent.Texts), disk, text)
		for i, s := range all {
			for _, other := range slices.Concat(given, all[:i]) {
				if sharedBytes(s, other) {
					t.Fatalf("of %s: text %d of the answers, %s, shares memory", toldLog(l), i, shortened(s))
				}
			}
		}
	}
}

// Promise 21: writing over an answer, and the room behind it, changes no other one and no argument.
func TestLogAnswersAreNewMemory(t *testing.T) {
	for _, l := range logCases() {
		lent := copiedLog(l)
		disk := shownAs(l)
		earlier := logAnswers(lent, "more", disk)
		want := earlier.copied()
		over := logAnswers(lent, "more", disk)
		for _, one := range over.logs {
			texts := one.Texts[:cap(one.Texts)]
			for i := range texts {
				texts[i] = "written over"
			}
		}
		if !alikeLogs(lent, l) || !earlier.isAlike(want) || !logAnswers(lent, "more", disk).isAlike(want) {
			t.Fatalf("of %s: two answers share memory", toldLog(l))
		}
		// The lists of one round of answers stand side by side: each is written over by itself.
		for i := range earlier.logs {
			texts := earlier.logs[i].Texts[:cap(earlier.logs[i].Texts)]
			for k := range texts {
				texts[k] = "written over"
			}
			for k := i + 1; k < len(earlier.logs); k++ {
				if !alikeLogs(earlier.logs[k], want.logs[k]) {
					t.Fatalf("of %s: answers %d and %d share memory", toldLog(l), i, k)
				}
			}
		}
	}
}
