package tests

import (
	"math"
	"math/rand"
	"slices"
	"testing"

	"loop.example/g00266/impl"
)

func win(size, sent int64, acked ...int64) impl.Window {
	return impl.Window{Size: size, Sent: sent, Acked: acked}
}

func alikeWindows(a, b impl.Window) bool {
	return a.Size == b.Size && a.Sent == b.Sent && slices.Equal(a.Acked, b.Acked)
}

// isWindow is what the document asks of a Window, number by number.
func isWindow(w impl.Window) bool {
	if w.Size < 1 || w.Size > 20 || w.Sent < 0 || w.Sent > most || len(w.Acked) < 1 || len(w.Acked) > 8 {
		return false
	}
	for _, n := range w.Acked {
		if n < 0 || n > w.Sent || n < w.Sent-w.Size {
			return false
		}
	}
	return true
}

func hasRoom(w impl.Window) bool {
	return w.Sent-slices.Min(w.Acked) < w.Size && w.Sent < most
}

func sentOnce(w impl.Window) (impl.Window, bool) {
	if !isWindow(w) {
		return impl.Window{}, false
	}
	out := win(w.Size, w.Sent, slices.Clone(w.Acked)...)
	if !hasRoom(w) {
		return out, false
	}
	out.Sent++
	return out, true
}

func ackedOnce(w impl.Window, who, count int64) (impl.Window, bool) {
	if !isWindow(w) {
		return impl.Window{}, false
	}
	out := win(w.Size, w.Sent, slices.Clone(w.Acked)...)
	if who < 0 || who >= int64(len(w.Acked)) || count < w.Acked[who] || count > w.Sent {
		return out, false
	}
	out.Acked[who] = count
	return out, true
}

// checkComes holds what came against what should, and asks promise 8 of it: from a right Window a right one comes, and nobody is more than Size behind.
func checkComes(t *testing.T, w, got, want impl.Window, is, wantIs bool) {
	t.Helper()
	if !alikeWindows(got, want) || is != wantIs {
		t.Fatalf("of %v comes %v and %v, not %v and %v", w, got, is, want, wantIs)
	}
	if !isWindow(w) {
		return
	}
	if !impl.WindowOk(got) {
		t.Fatalf("of %v comes %v, which is not WindowOk", w, got)
	}
	for i, n := range got.Acked {
		if got.Sent-n > got.Size || n > got.Sent {
			t.Fatalf("of %v comes %v: number %d is too far from Sent", w, got, i)
		}
	}
}

func checkSent(t *testing.T, w impl.Window) impl.Window {
	t.Helper()
	got, is := impl.Sent(w)
	want, wantIs := sentOnce(w)
	checkComes(t, w, got, want, is, wantIs)
	if is != impl.Open(w) {
		t.Fatalf("of %v Sent gives %v, but Open %v", w, is, impl.Open(w))
	}
	return got
}

func checkAcked(t *testing.T, w impl.Window, who, count int64) impl.Window {
	t.Helper()
	got, is := impl.Acked(w, who, count)
	want, wantIs := ackedOnce(w, who, count)
	if is != wantIs {
		t.Fatalf("Acked(%v, %d, %d) gives %v", w, who, count, is)
	}
	checkComes(t, w, got, want, is, wantIs)
	return got
}

// ackCounts are the counts around whatever decides in this Window.
func ackCounts(w impl.Window) []int64 {
	out := []int64{math.MinInt64, math.MinInt64 + 1, -1, 0, 1, w.Sent - 1, w.Sent, w.Sent + 1, w.Sent - w.Size, w.Sent - w.Size - 1, most, most + 1, math.MaxInt64 - 1, math.MaxInt64}
	for _, n := range w.Acked {
		out = append(out, n-1, n, n+1)
	}
	slices.Sort(out)
	return slices.Compact(out)
}

func ackPlaces(w impl.Window) []int64 {
	out := []int64{math.MinInt64, math.MinInt64 + 1, -2, -1, 8, 9, math.MaxInt64 - 1, math.MaxInt64}
	for i := range len(w.Acked) + 2 {
		out = append(out, int64(i))
	}
	return out
}

func checkWindow(t *testing.T, w impl.Window) {
	t.Helper()
	ok := isWindow(w)
	if impl.WindowOk(w) != ok {
		t.Fatalf("WindowOk(%v) is %v", w, !ok)
	}
	if open := ok && hasRoom(w); impl.Open(w) != open {
		t.Fatalf("Open(%v) is %v", w, !open)
	}
	checkSent(t, w)
	for _, who := range ackPlaces(w) {
		for _, count := range ackCounts(w) {
			checkAcked(t, w, who, count)
		}
	}
}

// smallWindows are right ones and wrong ones, all there are with few and small numbers.
func smallWindows() []impl.Window {
	var out []impl.Window
	for _, size := range []int64{-1, 0, 1, 2, 3, 20, 21} {
		for sent := int64(-1); sent <= 4; sent++ {
			for length := range 4 {
				for _, acked := range allLists[int64](length, -1, 0, 1, 2, 3, 4, 5) {
					out = append(out, win(size, sent, acked...))
				}
			}
		}
	}
	return out
}

// farWindows are around each limit: of Size, of Sent, of how many there are, of how far one is behind.
func farWindows() []impl.Window {
	var out []impl.Window
	for _, size := range []int64{0, 1, 2, 19, 20, 21} {
		for _, sent := range []int64{0, 1, 19, 20, 21, 5000, most - 21, most - 20, most - 1, most, most + 1} {
			for _, behind := range []int64{-1, 0, 1, size - 1, size, size + 1, 20, 21} {
				for _, length := range []int{1, 2, 8, 9} {
					for place := range length {
						ahead, back := repeated(sent, length), repeated(sent-size, length)
						ahead[place], back[place] = sent-behind, sent-behind
						out = append(out, win(size, sent, ahead...), win(size, sent, back...))
					}
				}
			}
		}
	}
	return out
}

func drawnWindow(lot *rand.Rand) impl.Window {
	w := win(1+lot.Int63n(20), lot.Int63n(60), make([]int64, 1+lot.Intn(8))...)
	switch lot.Intn(4) {
	case 0:
		w.Sent = most - lot.Int63n(30)
	case 1:
		w.Sent = lot.Int63n(most)
	}
	for i := range w.Acked {
		w.Acked[i] = w.Sent - lot.Int63n(1+min(w.Size, w.Sent))
	}
	return w
}

// Promise 8: of all small Windows, right and wrong ones, and of what Sent and Acked make of them.
func TestSmallWindows(t *testing.T) {
	right := 0
	for _, w := range smallWindows() {
		checkWindow(t, w)
		if isWindow(w) {
			right++
		}
	}
	if right < 500 {
		t.Fatalf("only %d right Windows were asked", right)
	}
}

func TestWindowsAtTheLimits(t *testing.T) {
	for _, w := range farWindows() {
		checkWindow(t, w)
	}
}

func TestDrawnWindows(t *testing.T) {
	lot := rand.New(rand.NewSource(8))
	for range 3000 {
		w := drawnWindow(lot)
		if !isWindow(w) {
			t.Fatalf("%v was drawn", w)
		}
		checkWindow(t, w)
	}
}

// walked takes a drawn step, a Sent or an Acked, of which many are refused.
func walked(t *testing.T, lot *rand.Rand, w impl.Window) impl.Window {
	t.Helper()
	if lot.Intn(3) == 0 {
		return checkSent(t, w)
	}
	who := lot.Int63n(int64(len(w.Acked))+2) - 1
	return checkAcked(t, w, who, w.Sent-lot.Int63n(w.Size+4)+1)
}

// Promise 8: over many Sents and Ackeds one behind the other.
func TestWindowsStayRight(t *testing.T) {
	lot := rand.New(rand.NewSource(81))
	for range 600 {
		w := drawnWindow(lot)
		size, count, sent := w.Size, len(w.Acked), w.Sent
		for range 300 {
			next := walked(t, lot, w)
			if next.Size != size || len(next.Acked) != count || next.Sent < sent || !impl.Under(w.Acked, next.Acked) {
				t.Fatalf("behind %v comes %v", w, next)
			}
			w, sent = next, next.Sent
		}
	}
}

// Promise 8: every Window that small ones can come to by any Sents and Ackeds.
func TestWindowsInWhateverOrder(t *testing.T) {
	for _, size := range []int64{1, 2, 3} {
		for length := 1; length <= 3; length++ {
			seen := []impl.Window{win(size, 0, repeated(0, length)...)}
			add := func(w impl.Window) {
				if w.Sent <= 5 && !slices.ContainsFunc(seen, func(o impl.Window) bool { return alikeWindows(o, w) }) {
					seen = append(seen, w)
				}
			}
			for i := 0; i < len(seen); i++ {
				add(checkSent(t, seen[i]))
				for who := range length {
					for count := range seen[i].Sent + 1 {
						add(checkAcked(t, seen[i], int64(who), count))
					}
				}
			}
			// From a new one each right Window can be come to, so none of them is left out.
			want := 0
			for sent := range int64(6) {
				for _, acked := range allLists[int64](length, 0, 1, 2, 3, 4, 5) {
					if isWindow(win(size, sent, acked...)) {
						want++
					}
				}
			}
			if len(seen) != want {
				t.Fatalf("Size %d, %d numbers: %d Windows, not %d", size, length, len(seen), want)
			}
		}
	}
}

// Promise 8: who does not ack stops all, and goes on where it left off.
func TestTheSlowestStopsAll(t *testing.T) {
	for size := int64(1); size <= 20; size++ {
		for length := 1; length <= 8; length++ {
			for slow := range length {
				w := win(size, 100, repeated(100, length)...)
				for range size {
					w = checkSent(t, w)
					for who := range length {
						if who != slow {
							w = checkAcked(t, w, int64(who), w.Sent)
						}
					}
				}
				if next, is := impl.Sent(w); is || impl.Open(w) || !alikeWindows(next, w) || w.Sent != 100+size {
					t.Fatalf("%v goes on without number %d", w, slow)
				}
				w = checkAcked(t, w, int64(slow), 101)
				w, is := impl.Sent(w)
				if !is || impl.Open(w) || w.Sent != 101+size {
					t.Fatalf("%v does not go on by just one", w)
				}
			}
		}
	}
}

func TestWindowsWrittenOut(t *testing.T) {
	cases := []struct {
		w        impl.Window
		ok, open bool
	}{
		{win(1, 0, 0), true, true},
		{win(1, 1, 0), true, false},
		{win(1, 2, 0), false, false},
		{win(1, 1, 1), true, true},
		{win(1, 1, 2), false, false},
		{win(0, 0, 0), false, false},
		{win(20, 20, 0), true, false},
		{win(20, 19, 0), true, true},
		{win(20, 21, 0), false, false},
		{win(20, 21, 1), true, false},
		{win(21, 0, 0), false, false},
		{win(21, 21, 1), false, false},
		{win(-1, 0, 0), false, false},
		{win(5, -1, 0), false, false},
		{win(5, -1, -1), false, false},
		{win(5, 3, -1), false, false},
		{win(5, 3, 0, -1, 3), false, false},
		{win(5, 0), false, false},
		{win(5, 0, 0, 0, 0, 0, 0, 0, 0, 0), true, true},
		{win(5, 0, 0, 0, 0, 0, 0, 0, 0, 0, 0), false, false},
		{win(3, 10, 7, 10, 8), true, false},
		{win(3, 10, 8, 10, 8), true, true},
		{win(3, 10, 6, 10, 8), false, false},
		{win(3, 10, 7, 11, 8), false, false},
		{win(3, 10, 10, 8, 7), true, false},
		{win(20, most, most), true, false},
		{win(20, most, most-1, most), true, false},
		{win(20, most, most-20), true, false},
		{win(20, most, most-21), false, false},
		{win(20, most-1, most-1), true, true},
		{win(20, most-1, most-20), true, true},
		{win(20, most-1, most-21), true, false},
		{win(20, most+1, most), false, false},
		{win(20, most+1, most+1), false, false},
		{impl.Window{}, false, false},
	}
	for _, c := range cases {
		if ok, open := impl.WindowOk(c.w), impl.Open(c.w); ok != c.ok || open != c.open {
			t.Errorf("%v: WindowOk %v, Open %v", c.w, ok, open)
		}
		want := impl.Window{}
		if c.ok {
			want = c.w
		}
		if c.open {
			want.Sent++
		}
		if got, is := impl.Sent(c.w); is != c.open || !alikeWindows(got, want) {
			t.Errorf("Sent(%v) is %v, %v", c.w, got, is)
		}
	}
}

func TestAckedWrittenOut(t *testing.T) {
	w := win(3, 10, 7, 9, 8)
	cases := []struct {
		who, count int64
		is         bool
		want       []int64
	}{
		{0, 6, false, w.Acked}, {0, 7, true, []int64{7, 9, 8}}, {0, 8, true, []int64{8, 9, 8}},
		{0, 10, true, []int64{10, 9, 8}}, {0, 11, false, w.Acked},
		{1, 8, false, w.Acked}, {1, 9, true, []int64{7, 9, 8}}, {1, 10, true, []int64{7, 10, 8}}, {1, 11, false, w.Acked},
		{2, 7, false, w.Acked}, {2, 8, true, []int64{7, 9, 8}}, {2, 10, true, []int64{7, 9, 10}}, {2, 11, false, w.Acked},
		{-1, 9, false, w.Acked}, {3, 9, false, w.Acked}, {3, 0, false, w.Acked}, {8, 10, false, w.Acked},
		{0, math.MinInt64, false, w.Acked}, {0, math.MaxInt64, false, w.Acked},
		{math.MinInt64, 9, false, w.Acked}, {math.MaxInt64, 9, false, w.Acked},
		{math.MinInt64, math.MinInt64, false, w.Acked}, {math.MaxInt64, math.MaxInt64, false, w.Acked},
	}
	for _, c := range cases {
		if got, is := impl.Acked(w, c.who, c.count); is != c.is || !alikeWindows(got, win(3, 10, c.want...)) {
			t.Errorf("Acked(%v, %d, %d) is %v, %v", w, c.who, c.count, got, is)
		}
	}
	full := win(20, most, most-20, most)
	if got, is := impl.Acked(full, 0, most); !is || !alikeWindows(got, win(20, most, most, most)) {
		t.Errorf("Acked(%v, 0, %d) is %v, %v", full, most, got, is)
	}
	if got, is := impl.Acked(full, 0, most+1); is || !alikeWindows(got, full) {
		t.Errorf("Acked(%v, 0, %d) is %v, %v", full, most+1, got, is)
	}
}

func checkNoWindow(t *testing.T, w impl.Window) {
	t.Helper()
	if impl.WindowOk(w) || impl.Open(w) {
		t.Errorf("%v: WindowOk %v, Open %v", w, impl.WindowOk(w), impl.Open(w))
	}
	if got, is := impl.Sent(w); is || !alikeWindows(got, impl.Window{}) {
		t.Errorf("Sent(%v) is %v, %v", w, got, is)
	}
	for _, who := range []int64{math.MinInt64, -1, 0, 1, int64(len(w.Acked)) - 1, int64(len(w.Acked)), math.MaxInt64} {
		for _, count := range []int64{math.MinInt64, -1, 0, w.Sent, most, math.MaxInt64} {
			if got, is := impl.Acked(w, who, count); is || !alikeWindows(got, impl.Window{}) {
				t.Errorf("Acked(%v, %d, %d) is %v, %v", w, who, count, got, is)
			}
		}
	}
}

// wrongWindows have something that is not as told, wherever it stands.
func wrongWindows() []impl.Window {
	var out []impl.Window
	for _, n := range append(ends(), 0, 21, 22, most) {
		out = append(out, win(n, 0, 0), win(n, 9, 9, 8), win(n, n, n), win(n, n, 0))
	}
	for _, n := range append(ends(), most+1, most+2) {
		out = append(out, win(1, n, 0), win(20, n, 0, 0), win(20, n, n), win(20, n, most))
	}
	for _, v := range noVectors() {
		out = append(out, win(20, 0, v...), win(20, 1, v...), win(20, most, v...))
	}
	for length := 1; length <= 8; length++ {
		for place := range length {
			for _, n := range append(ends(), 79, 101, 102, most, most+1) {
				acked := repeated(90, length)
				acked[place] = n
				out = append(out, win(20, 100, acked...))
			}
		}
	}
	for _, pair := range allLists(2, append(ends(), 79, 101)...) {
		out = append(out, win(20, 100, pair...), win(pair[0], pair[1], 0), win(pair[0], 100, 90, pair[1]), win(20, pair[0], pair[1], 0))
	}
	return out
}

// Promise 21: what is not WindowOk has the fixed answers, whatever else is asked of it.
func TestWrongWindows(t *testing.T) {
	for _, w := range wrongWindows() {
		checkNoWindow(t, w)
	}
	for _, list := range allLists[int64](3, math.MinInt64, math.MaxInt64, -1, most+1) {
		checkNoWindow(t, win(list[0], list[1], list[2]))
	}
}

func windowCases() []impl.Window {
	out := []impl.Window{
		{}, win(1, 0, 0), win(1, 1, 0), win(3, 10, 7, 9, 8), win(3, 10, 8, 9, 10), win(20, most, most-3, most),
		win(20, most-1, repeated(most-1, 8)...), win(20, 50, repeated(30, 8)...), win(5, 2, repeated(2, 8)...),
	}
	return append(out, wrongWindows()...)
}

// windowAnswers are the Windows of each way that an answer may come: as it is, and with something more.
func windowAnswers(w impl.Window) []impl.Window {
	sent, _ := impl.Sent(w)
	out := []impl.Window{sent}
	for _, who := range []int64{-1, 0, int64(len(w.Acked)) - 1, int64(len(w.Acked))} {
		for _, count := range []int64{-1, w.Sent - 1, w.Sent, w.Sent + 1} {
			acked, _ := impl.Acked(w, who, count)
			out = append(out, acked)
		}
	}
	return out
}

func copiedWindows(list []impl.Window) []impl.Window {
	out := slices.Clone(list)
	for i := range out {
		out[i].Acked = slices.Clone(out[i].Acked)
	}
	return out
}

// Promise 21: arguments stay, and so does the spare room behind them.
func TestWindowArgumentsStay(t *testing.T) {
	for _, w := range windowCases() {
		w.Acked = roomy(w.Acked)
		was := whole(w.Acked)
		impl.WindowOk(w)
		impl.Open(w)
		windowAnswers(w)
		if !slices.Equal(whole(w.Acked), was) {
			t.Fatalf("%v became %v", was, whole(w.Acked))
		}
	}
}

// Promise 21: what lies in the spare room behind the numbers is nobody's.
func TestWindowsEndWhereTheyEnd(t *testing.T) {
	lot := rand.New(rand.NewSource(82))
	for range 300 {
		w := drawnWindow(lot)
		for _, mark := range []int64{spareMark, 0, w.Sent, math.MaxInt64} {
			w.Acked = roomyWith(w.Acked, mark)
			checkWindow(t, w)
		}
	}
}

// Promise 21: writing over an answer, and the room behind it, changes no argument and no other answer, also where the Window comes back as it is.
func TestWindowAnswersAreNewMemory(t *testing.T) {
	for _, w := range windowCases() {
		w.Acked = roomy(w.Acked)
		was := whole(w.Acked)
		earlier := windowAnswers(w)
		want := copiedWindows(earlier)
		for i, answer := range windowAnswers(w) {
			scribble(answer.Acked)
			if !slices.Equal(whole(w.Acked), was) {
				t.Fatalf("answer %d shares memory with %v", i, w)
			}
			if !slices.EqualFunc(earlier, want, alikeWindows) || !slices.EqualFunc(windowAnswers(w), want, alikeWindows) {
				t.Fatalf("of %v: answer %d shares memory with another one", w, i)
			}
		}
	}
}

// Promise 21: nor does a Window that is written over change those that came of it, or those that it came of.
func TestWindowsOneBehindTheOtherAreNewMemory(t *testing.T) {
	lot := rand.New(rand.NewSource(83))
	for range 200 {
		line := []impl.Window{drawnWindow(lot)}
		for range 20 {
			line = append(line, walked(t, lot, line[len(line)-1]))
		}
		want := copiedWindows(line)
		for i := range line {
			scribble(line[i].Acked)
			if !slices.EqualFunc(line[i+1:], want[i+1:], alikeWindows) {
				t.Fatalf("%v shares memory with one behind it", want[i])
			}
		}
	}
}
