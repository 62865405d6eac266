package tests

import (
	"fmt"
	"math"
	"math/big"
	"math/rand"
	"slices"
	"strconv"
	"strings"
	"testing"
	"unsafe"

	"loop.example/g00266/impl"
)

// checked is the chapter's rule over numbers without an end, the modulus taken at the end alone.
func checked(s string) int64 {
	h := big.NewInt(11)
	for _, b := range []byte(s) {
		h.Mul(h, big.NewInt(37))
		h.Add(h, big.NewInt(int64(b)))
	}
	return h.Mod(h, big.NewInt(999983)).Int64()
}

// stepped is the same rule step by step: much quicker for long texts.
func stepped(s string) int64 {
	h := int64(11)
	for _, b := range []byte(s) {
		h = (h*37 + int64(b)) % 999983
	}
	return h
}

func framed(s string) string {
	return fmt.Sprintf("%d %d\n%s\n", len(s), stepped(s), s)
}

func framedAll(texts []string) string {
	var out strings.Builder
	for _, s := range texts {
		out.WriteString(framed(s))
	}
	return out.String()
}

// firstFramed looks for a Frame ahead by trying each length of at most 4 digits and each Check of at most 6.
func firstFramed(disk string) (string, bool) {
	for digits := 1; digits <= 4 && digits < len(disk); digits++ {
		n, err := strconv.Atoi(disk[:digits])
		if err != nil || n < 0 || n > 2000 {
			continue
		}
		for start := digits + 3; start <= digits+8 && start+n <= len(disk); start++ {
			text := disk[start : start+n]
			if strings.HasPrefix(disk, framed(text)) {
				return text, true
			}
		}
	}
	return "", false
}

func framesOf(disk string) ([]string, int64) {
	texts := []string{}
	taken := 0
	for {
		text, ok := firstFramed(disk[taken:])
		if !ok {
			return texts, int64(taken)
		}
		texts = append(texts, text)
		taken += len(framed(text))
	}
}

// wholeOf are the first of these texts whose Frames end within so many bytes, and the bytes that they take.
func wholeOf(texts []string, bytes int) ([]string, int64) {
	taken := 0
	for i, s := range texts {
		if taken+len(framed(s)) > bytes {
			return texts[:i], int64(taken)
		}
		taken += len(framed(s))
	}
	return texts, int64(taken)
}

// shortened keeps what a failed test tells readable.
func shortened(s string) string {
	if len(s) > 200 {
		return fmt.Sprintf("%q .. (%d bytes)", s[:200], len(s))
	}
	return fmt.Sprintf("%q", s)
}

func checkFrames(t *testing.T, disk string, texts []string, taken int64) {
	t.Helper()
	got, bytes := impl.Frames(disk)
	if !slices.Equal(got, texts) || bytes != taken {
		t.Fatalf("Frames of %s are %d texts %s of %d bytes, not %d texts of %d bytes", shortened(disk), len(got), shortened(strings.Join(got, "|")), bytes, len(texts), taken)
	}
}

func drawnText(lot *rand.Rand, length int) string {
	out := make([]byte, length)
	for i := range out {
		out[i] = byte(lot.Intn(256))
	}
	return string(out)
}

// drawnMarks has nothing but the bytes that a Frame's own marks are made of.
func drawnMarks(lot *rand.Rand, length int) string {
	out := make([]byte, length)
	for i := range out {
		out[i] = "0123456789 \n"[lot.Intn(12)]
	}
	return string(out)
}

// textChecked is a text of 4 bytes with this Check.
func textChecked(t *testing.T, want int64) string {
	t.Helper()
	for n := range 256 * 256 * 256 {
		ahead := string([]byte{byte(n), byte(n >> 8), byte(n >> 16)})
		if last := ((want-37*stepped(ahead))%999983 + 999983) % 999983; last < 256 {
			return ahead + string([]byte{byte(last)})
		}
	}
	t.Fatalf("no text of 4 bytes has the Check %d", want)
	return ""
}

// frameTexts are texts of every kind: without a byte, with a Frame's own marks, with Frames inside, with bytes that are no runes, up to the limit.
func frameTexts(t *testing.T) []string {
	t.Helper()
	lot := rand.New(rand.NewSource(7))
	out := []string{"", "hey", "a", "\n", " ", "0", "\n\n", "3 703417", "\x00", "\xff\xfe", "ä€", "-1", "0 11\n\n", framed("hey"), framed(framed("")), framed("hey")[:7],
		strings.Repeat("\n", 9), strings.Repeat(" ", 10), strings.Repeat("9", 99), strings.Repeat("z", 100), strings.Repeat("\xff", 999), strings.Repeat("\x00", 1000)}
	for _, check := range []int64{0, 1, 9, 10, 99999, 100000, 999982} {
		out = append(out, textChecked(t, check))
	}
	for range 20 {
		out = append(out, drawnText(lot, lot.Intn(40)), drawnMarks(lot, lot.Intn(40)))
	}
	return out
}

func longTexts() []string {
	lot := rand.New(rand.NewSource(8))
	return []string{drawnText(lot, 1999), strings.Repeat("\n", 2000), drawnText(lot, 2000), drawnMarks(lot, 2000), strings.Repeat("\xff", 2000), framed(drawnText(lot, 1980))}
}

func TestCheckIsTheChaptersRule(t *testing.T) {
	for _, s := range append(frameTexts(t), longTexts()...) {
		if got, want := impl.Check(s), checked(s); got != want {
			t.Errorf("Check of %s is %d, not %d", shortened(s), got, want)
		}
		for i := range min(len(s), 60) {
			if got, want := impl.Check(s[:i]), checked(s[:i]); got != want {
				t.Errorf("Check of %s is %d, not %d", shortened(s[:i]), got, want)
			}
		}
	}
}

func TestCheckWrittenOut(t *testing.T) {
	for s, want := range map[string]int64{"": 11, "hey": 703417, "a": 504, "\x00": 407, "\xff": 662, "\x00\x00": 15059, "\x00\x00\x00": 557183, "\x00\x00\x00\x00": 616111} {
		if got := impl.Check(s); got != want {
			t.Errorf("Check of %q is %d, not %d", s, got, want)
		}
	}
	for b := range 256 {
		if got := impl.Check(string([]byte{byte(b)})); got != int64(407+b) {
			t.Errorf("Check of the byte %d is %d", b, got)
		}
	}
}

// Check has no limit of its own.
func TestCheckOfTextsThatNoFrameHas(t *testing.T) {
	lot := rand.New(rand.NewSource(9))
	for _, length := range []int{2000, 2001, 2002, 4096, 100000, 1 << 20} {
		for _, s := range []string{drawnText(lot, length), strings.Repeat("\xff", length), strings.Repeat("\x00", length)} {
			if got, want := impl.Check(s), stepped(s); got != want {
				t.Errorf("Check of %s is %d, not %d", shortened(s), got, want)
			}
		}
	}
}

func TestFrameIsHeadTextAndEnd(t *testing.T) {
	for _, s := range append(frameTexts(t), longTexts()...) {
		if got, want := impl.Frame(s), framed(s); got != want {
			t.Errorf("Frame of %s is %s, not %s", shortened(s), shortened(got), shortened(want))
		}
	}
	for s, want := range map[string]string{"": "0 11\n\n", "hey": "3 703417\nhey\n", "\n": "1 417\n\n\n", "0 11\n\n": "6 " + strconv.FormatInt(checked("0 11\n\n"), 10) + "\n0 11\n\n\n"} {
		if got := impl.Frame(s); got != want {
			t.Errorf("Frame of %q is %q, not %q", s, got, want)
		}
	}
}

func TestFrameAtTheLimit(t *testing.T) {
	if impl.MaxText != 2000 {
		t.Fatalf("MaxText is %d", impl.MaxText)
	}
	for _, c := range []string{"x", "\n", "\xff", "7"} {
		for _, length := range []int{1998, 1999, 2000} {
			s := strings.Repeat(c, length)
			if got := impl.Frame(s); got != framed(s) {
				t.Errorf("Frame of %s is %s", shortened(s), shortened(got))
			}
			checkFrames(t, framed(s)+framed("hey"), []string{s, "hey"}, int64(len(framed(s))+len(framed("hey"))))
		}
		for _, length := range []int{2001, 2002, 4000, 9999, 10000, 65536} {
			if got := impl.Frame(strings.Repeat(c, length)); got != "" {
				t.Errorf("Frame of %d bytes is %s", length, shortened(got))
			}
		}
	}
	// The limit counts bytes, not runes.
	if impl.Frame(strings.Repeat("ä", 1000)) != framed(strings.Repeat("ä", 1000)) || impl.Frame(strings.Repeat("ä", 1001)) != "" {
		t.Error("Frame counts something else than bytes")
	}
}

// Promise 5, without a cut: Frames of Frames are the texts.
func TestFramesOfFramesAreTheTexts(t *testing.T) {
	all := append(frameTexts(t), longTexts()...)
	for _, s := range all {
		checkFrames(t, impl.Frame(s), []string{s}, int64(len(framed(s))))
	}
	lot := rand.New(rand.NewSource(10))
	for range 200 {
		texts := []string{}
		disk := ""
		for range lot.Intn(12) {
			s := all[lot.Intn(len(all))]
			texts = append(texts, s)
			disk += impl.Frame(s)
		}
		checkFrames(t, disk, texts, int64(len(disk)))
	}
	checkFrames(t, framedAll(all), all, int64(len(framedAll(all))))
}

func TestFramesOfManyFrames(t *testing.T) {
	for _, s := range []string{"", "hey", strings.Repeat("\n", 2000)} {
		disk := strings.Repeat(framed(s), 3000)
		checkFrames(t, disk, slices.Repeat([]string{s}, 3000), int64(len(disk)))
		checkFrames(t, disk+disk[:5], slices.Repeat([]string{s}, 3000), int64(len(disk)))
		checkFrames(t, disk[:len(disk)-1], slices.Repeat([]string{s}, 2999), int64(len(disk)-len(framed(s))))
	}
}

// Promise 5, in its own words: at each byte.
func TestDiskCutAnywhereHasItsFirstFrames(t *testing.T) {
	all := frameTexts(t)
	disks := [][]string{{}, {""}, {"", "", ""}, {"hey", "", "hey"}, {"\n", "\n", "\n\n"}, {framed("hey"), framed("")}, {"0 11\n\n", "", "0 11\n"}, longTexts()[:3], all}
	lot := rand.New(rand.NewSource(11))
	for range 30 {
		texts := []string{}
		for range lot.Intn(8) {
			texts = append(texts, all[lot.Intn(len(all))])
		}
		disks = append(disks, texts)
	}
	for _, texts := range disks {
		disk := ""
		for _, s := range texts {
			disk += impl.Frame(s)
		}
		for bytes := range len(disk) + 1 {
			want, taken := wholeOf(texts, bytes)
			checkFrames(t, disk[:bytes], want, taken)
		}
	}
}

// Promise 5, as a disk is torn: all that was there, and of the next Frame what came through.
func TestTornDiskHasItsFirstFrames(t *testing.T) {
	all := frameTexts(t)
	lot := rand.New(rand.NewSource(12))
	for range 40 {
		texts := []string{}
		disk := ""
		for range lot.Intn(5) {
			texts = append(texts, all[lot.Intn(len(all))])
			disk += impl.Frame(texts[len(texts)-1])
		}
		other := all[lot.Intn(len(all))]
		more := impl.Frame(other)
		longer := append(slices.Clone(texts), other)
		for bytes := range len(more) + 1 {
			torn := impl.Torn(disk, int64(len(disk)), more, int64(bytes))
			want, taken := wholeOf(longer, len(disk)+bytes)
			checkFrames(t, torn, want, taken)
		}
		for kept := range len(disk) + 1 {
			torn := impl.Torn(disk, int64(kept), more, 0)
			want, taken := wholeOf(texts, kept)
			checkFrames(t, torn, want, taken)
		}
	}
}

// Where the Frame of another text stands behind half of one, that half hides it.
func TestTornInsideOfAFrame(t *testing.T) {
	texts := []string{"", "hey", "0 11\n\n", "\n1 2\n", "0"}
	disk := framedAll(texts)
	for _, other := range []string{"", "hey", "1", "\n", framed("hey")} {
		more := framed(other)
		for kept := range len(disk) + 1 {
			for bytes := range len(more) + 1 {
				torn := impl.Torn(disk, int64(kept), more, int64(bytes))
				if want := disk[:kept] + more[:bytes]; torn != want {
					t.Fatalf("Torn(%q, %d, %q, %d) is %q", disk, kept, more, bytes, torn)
				}
				want, taken := framesOf(torn)
				checkFrames(t, torn, want, taken)
			}
		}
	}
}

// clipped is the number, at least 0 and at most the length.
func clipped(count int64, s string) int {
	switch {
	case count <= 0:
		return 0
	case count >= int64(len(s)):
		return len(s)
	}
	return int(count)
}

func tornCounts(s string) []int64 {
	n := int64(len(s))
	out := []int64{math.MinInt64, math.MinInt64 + 1, -(1 << 32), -(1 << 32) + 1, -n - 1, -n, -2, -1, n - 1, n, n + 1, n + 2, 2 * n, 1 << 31, 1 << 32, 1<<32 + 1, 1 << 62, math.MaxInt64 - 1, math.MaxInt64}
	for i := range min(n, 12) {
		out = append(out, i)
	}
	return out
}

func TestTornClipsBothCounts(t *testing.T) {
	texts := []string{"", "a", "\n", "abcdef", "xyz", "äöü", "\xff\x00\xfe", framed("hey"), strings.Repeat("long", 1000)}
	for _, disk := range texts {
		for _, more := range texts {
			for _, kept := range tornCounts(disk) {
				for _, bytes := range tornCounts(more) {
					want := disk[:clipped(kept, disk)] + more[:clipped(bytes, more)]
					if got := impl.Torn(disk, kept, more, bytes); got != want {
						t.Fatalf("Torn(%s, %d, %s, %d) is %s, not %s", shortened(disk), kept, shortened(more), bytes, shortened(got), shortened(want))
					}
				}
			}
		}
	}
}

// checkNoFrame: Frames end ahead of it, whatever stands ahead of it and behind it.
func checkNoFrame(t *testing.T, what, wrong string) {
	t.Helper()
	for _, ahead := range [][]string{nil, {"hey"}, {"", "0 11\n\n", ""}} {
		for _, behind := range []string{"", "\n", " ", "0", "x", framed(""), framed("hey"), "\n" + framed("hey"), strings.Repeat(framed("0"), 3)} {
			disk := framedAll(ahead) + wrong + behind
			taken := int64(len(framedAll(ahead)))
			if got, bytes := impl.Frames(disk); !slices.Equal(got, ahead) || bytes != taken {
				t.Errorf("%s: of %s: Frames are %d texts of %d bytes", what, shortened(disk), len(got), bytes)
				return
			}
		}
	}
}

func headed(length, check any, s string) string {
	return fmt.Sprintf("%v %v\n%s\n", length, check, s)
}

// wrongNumbers are other ways to write a number, and numbers that come to the same where they wrap round.
func wrongNumbers(n int64) []string {
	s := strconv.FormatInt(n, 10)
	wrapped := func(power uint) string {
		sum := new(big.Int).Lsh(big.NewInt(1), power)
		return sum.Add(sum, big.NewInt(n)).String()
	}
	return []string{"", "0" + s, "00" + s, strings.Repeat("0", 9) + s, strings.Repeat("0", 30) + s, "+" + s, "-" + s, "--" + s, "-0" + s, " " + s, s + " ", "\t" + s, s + "\t", s + "\r", "\n" + s, "\v" + s,
		s + ".0", s + ".", s + "e0", "0x" + strconv.FormatInt(n, 16), "0b" + strconv.FormatInt(n, 2), "0o" + strconv.FormatInt(n, 8), "_" + s, s + "_", "0_" + s, s + "x", "x", "-", "+", "NaN", "\x00" + s, s + "\x00",
		wrapped(8), wrapped(16), wrapped(31), wrapped(32), wrapped(63), wrapped(64), wrapped(128), "9" + strings.Repeat("0", 9) + s, "1000000000", "4294967296", strings.Repeat("9", 400), s + strings.Repeat("0", 10), "\uff13", "\u0663"}
}

func TestNoFrameWithALengthOfAnotherForm(t *testing.T) {
	for _, s := range []string{"", "hey", "0", "\n", "0123456789", strings.Repeat("x", 255), strings.Repeat("y", 2000)} {
		for _, length := range wrongNumbers(int64(len(s))) {
			checkNoFrame(t, "length "+shortened(length), headed(length, stepped(s), s))
		}
	}
}

func TestNoFrameWithACheckOfAnotherForm(t *testing.T) {
	for _, s := range []string{"", "hey", "0", "\n", textChecked(t, 0), textChecked(t, 7), strings.Repeat("y", 2000)} {
		for _, check := range wrongNumbers(stepped(s)) {
			checkNoFrame(t, "Check "+shortened(check), headed(len(s), check, s))
		}
	}
}

func TestNoFrameWithAnotherCheck(t *testing.T) {
	texts := []string{"", "hey", "hez", "yeh", "Hey", "he", "0", "\n", strings.Repeat("y", 2000)}
	for _, s := range texts {
		for _, other := range texts {
			if s != other {
				checkNoFrame(t, "the Check of "+shortened(other), headed(len(s), stepped(other), s))
			}
		}
		for _, off := range []int64{-1, 1, 10, -10, 999983, 2 * 999983, -999983, 1 << 32, 256, 65536} {
			checkNoFrame(t, "a Check that is off by "+strconv.FormatInt(off, 10), headed(len(s), stepped(s)+off, s))
		}
	}
	checkNoFrame(t, "the modulus as a Check", headed(4, 999983, textChecked(t, 0)))
	checkNoFrame(t, "-0 as a Check", headed(4, "-0", textChecked(t, 0)))
}

// Each with the Check of its own text, so that nothing but the length is wrong.
func TestNoFrameWithALengthAboveTheLimit(t *testing.T) {
	for _, length := range []int{2001, 2002, 2048, 4000, 9999, 10000, 65536, 100000} {
		checkNoFrame(t, "a length above 2000", framed(strings.Repeat("x", length)))
		checkNoFrame(t, "a length above 2000", framed(strings.Repeat("\n", length)))
	}
	for _, length := range []int64{2001, 999999999, 1000000000, math.MaxInt32, math.MaxInt64} {
		checkNoFrame(t, "a length above 2000", headed(length, 11, ""))
		checkNoFrame(t, "a length above 2000", headed(length, stepped("hey"), "hey"))
	}
}

func TestNoFrameWithALengthBeyondTheDisk(t *testing.T) {
	for _, s := range []string{"", "hey", framed("hey") + "xyz", strings.Repeat("x", 1990)} {
		for more := 1; more <= 10; more++ {
			for _, check := range []int64{stepped(s), stepped(s + "\n")} {
				for _, ahead := range [][]string{{}, {"hey", ""}} {
					disk := framedAll(ahead)
					checkFrames(t, disk+headed(len(s)+more, check, s), ahead, int64(len(disk)))
				}
			}
		}
		for less := 1; less <= min(3, len(s)); less++ {
			checkNoFrame(t, "a length that is short", headed(len(s)-less, stepped(s), s))
			checkNoFrame(t, "a length that is short", headed(len(s)-less, stepped(s[:len(s)-less]), s))
		}
	}
}

func TestNoFrameWithoutItsMarks(t *testing.T) {
	n := strconv.FormatInt(stepped("hey"), 10)
	for _, wrong := range []string{
		"3" + n + "\nhey\n", "3\t" + n + "\nhey\n", "3  " + n + "\nhey\n", "3\n" + n + "\nhey\n", "3," + n + "\nhey\n", "3\xa0" + n + "\nhey\n", "3\x00" + n + "\nhey\n",
		"3 " + n + "hey\n", "3 " + n + " hey\n", "3 " + n + "\r\nhey\n", "3 " + n + "\rhey\n", "3 " + n + " \nhey\n", "3 " + n + "\x00hey\n",
		"3 " + n + "\nheyx", "3 " + n + "\nhey\r\n", "3 " + n + "\nhey \n", "3 " + n + "\nhey\x00\n", "3 " + n + "\n\nhey\n",
		n + " 3\nhey\n", "hey\n3 " + n + "\n", " 3 " + n + "\nhey\n", "\n3 " + n + "\nhey\n", "\ufeff3 " + n + "\nhey\n",
		"3 \nhey\n", " \nhey\n", "3\nhey\n", "\nhey\n", " " + n + "\nhey\n", "hey\n", "x", "0 11\nx", "0 11 \n\n", "0  11\n\n", "011\n\n", "0 11\r\n\n",
		"3 hey\n" + n + "\n", "{3} {" + n + "}\nhey\n",
	} {
		checkNoFrame(t, "marks", wrong)
	}
}

// Half of one, with nothing behind it, is none, however short it is.
func TestHalfOfAFrameIsNone(t *testing.T) {
	for _, s := range append(frameTexts(t), longTexts()...) {
		frame := framed(s)
		for bytes := range len(frame) {
			checkFrames(t, frame[:bytes], nil, 0)
		}
		for bytes := 1; bytes <= min(len(frame), 40); bytes++ {
			want, taken := framesOf(frame[bytes:])
			checkFrames(t, frame[bytes:], want, taken)
		}
	}
	checkFrames(t, "", nil, 0)
}

// Each byte of a disk changed into each other one, left out, and doubled.
func TestDiskWithOneByteWrong(t *testing.T) {
	disk := framedAll([]string{"hey", "", "10"})
	for i := range len(disk) {
		for b := range 256 {
			changed := disk[:i] + string([]byte{byte(b)}) + disk[i+1:]
			want, taken := framesOf(changed)
			checkFrames(t, changed, want, taken)
			if changed != disk && taken > int64(i) {
				t.Fatalf("byte %d of %q may be %d", i, disk, b)
			}
		}
		for _, changed := range []string{disk[:i] + disk[i+1:], disk[:i+1] + disk[i:]} {
			want, taken := framesOf(changed)
			checkFrames(t, changed, want, taken)
		}
	}
}

func TestAllSmallDisks(t *testing.T) {
	for length := range 9 {
		for _, list := range allLists[byte](length, '0', '1', ' ', '\n') {
			want, taken := framesOf(string(list))
			checkFrames(t, string(list), want, taken)
		}
	}
}

func TestDrawnDisks(t *testing.T) {
	lot := rand.New(rand.NewSource(13))
	for range 3000 {
		disk := drawnMarks(lot, lot.Intn(30))
		if lot.Intn(2) == 0 {
			disk = framed(drawnMarks(lot, lot.Intn(5))) + framed("") + disk
		}
		want, taken := framesOf(disk)
		checkFrames(t, disk, want, taken)
	}
}

// written is a text over these very bytes: what is written into them later shows in whatever shares them.
func written(bytes []byte) string {
	return unsafe.String(unsafe.SliceData(bytes), len(bytes))
}

func frameDisks(t *testing.T) []string {
	t.Helper()
	disks := append(frameTexts(t), longTexts()...)
	for _, s := range frameTexts(t) {
		disks = append(disks, framed(s), framed(s)+framed("hey")+"3 ", framed("hey")+s)
	}
	return append(disks, framedAll(longTexts()), strings.Repeat("x", 2001))
}

type frameAnswer struct {
	frame string
	texts []string
	taken int64
	torn  []string
}

// frameAnswers are of every kind, also such as are a whole argument.
func frameAnswers(disk, more string) frameAnswer {
	texts, taken := impl.Frames(disk)
	all := int64(len(disk))
	torn := []string{impl.Torn(disk, all, more, all), impl.Torn(disk, all, more, 0), impl.Torn(more, 0, disk, all), impl.Torn(disk, 1, "", 1), impl.Torn("", 1, disk, 2)}
	return frameAnswer{impl.Frame(disk), texts, taken, torn}
}

func (a frameAnswer) copied() frameAnswer {
	out := frameAnswer{frame: strings.Clone(a.frame), taken: a.taken}
	for _, s := range a.texts {
		out.texts = append(out.texts, strings.Clone(s))
	}
	for _, s := range a.torn {
		out.torn = append(out.torn, strings.Clone(s))
	}
	return out
}

func (a frameAnswer) isAlike(b frameAnswer) bool {
	return a.frame == b.frame && slices.Equal(a.texts, b.texts) && a.taken == b.taken && slices.Equal(a.torn, b.torn)
}

// Promise 21: arguments stay, and so does the spare room behind them; and no answer changes when the bytes of an argument do.
func TestFrameArgumentsStayAndAreNotShared(t *testing.T) {
	for _, s := range frameDisks(t) {
		disk, more := roomyWith([]byte(s), 'm'), roomyWith([]byte(framed("more")), 'm')
		wasDisk, wasMore := whole(disk), whole(more)
		impl.Check(written(disk))
		answer := frameAnswers(written(disk), written(more))
		if !slices.Equal(whole(disk), wasDisk) || !slices.Equal(whole(more), wasMore) {
			t.Fatalf("%s or what is behind it changed", shortened(s))
		}
		want := answer.copied()
		for i := range disk {
			disk[i] ^= 0x55
		}
		for i := range more {
			more[i] ^= 0x55
		}
		if !answer.isAlike(want) {
			t.Fatalf("of %s: an answer shares memory with an argument", shortened(s))
		}
	}
}

// Promise 21: writing over a list, and the room behind it, changes no other one.
func TestFrameAnswersAreNewMemory(t *testing.T) {
	for _, disk := range frameDisks(t) {
		earlier, taken := impl.Frames(disk)
		want := slices.Clone(earlier)
		written, _ := impl.Frames(disk)
		written = written[:cap(written)]
		for i := range written {
			written[i] = "written over"
		}
		later, bytes := impl.Frames(disk)
		if !slices.Equal(earlier, want) || !slices.Equal(later, want) || bytes != taken {
			t.Fatalf("of %s: two answers of Frames share memory", shortened(disk))
		}
	}
}
