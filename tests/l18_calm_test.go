package tests

import (
	"fmt"
	"math/rand"
	"slices"
	"testing"

	"loop.example/g00266/impl"
)

// calmOnceOf is one time of a calm, as the document has it.
func calmOnceOf(g impl.Group) impl.Group {
	out := copiedGroup(g)
	for who := range out.Members {
		for _, kind := range []int64{impl.AcStep, impl.AcAll} {
			if out.Up[who] {
				out, _ = happenOf(out, act(kind, int64(who), 0))
			}
		}
	}
	for len(out.Mails) > 0 {
		first := out.Mails[0]
		out.Mails = out.Mails[1:]
		out = comeOf(out, first)
	}
	return out
}

func calmOf(g impl.Group) impl.Group {
	if !isRightGroup(g) {
		return impl.Group{}
	}
	for range 8 {
		g = calmOnceOf(g)
	}
	return g
}

func checkCalm(t *testing.T, g impl.Group) impl.Group {
	t.Helper()
	got, want := impl.Calm(g), calmOf(g)
	if !alikeGroup(got, want) {
		t.Fatalf("Calm of %s is\n%s, not\n%s", toldGroup(g), toldGroup(got), toldGroup(want))
	}
	checkStaysGroup(t, "Calm", g, got)
	if len(got.Mails) > 0 || impl.GroupOk(g) && !slices.Equal(got.Up, g.Up) {
		t.Fatalf("Calm of %s is %s", toldGroup(g), toldGroup(got))
	}
	return got
}

func textCounts(g impl.Group) []int64 {
	out := []int64{}
	for _, m := range g.Members {
		out = append(out, int64(len(ownRow(m).Texts)))
	}
	return out
}

// checkSingsAllReady is what promise 18 says of a calm without doubts, where all are Up.
func checkSingsAllReady(t *testing.T, g impl.Group) impl.Group {
	t.Helper()
	got := checkCalm(t, g)
	counts := textCounts(g)
	ready := firstGap(counts)
	if impl.Ready(counts) != ready {
		t.Fatalf("Ready(%v) is not %d", counts, ready)
	}
	voice := impl.Voice(got.Members[0])
	for who, m := range got.Members {
		if !slices.Equal(m.Sung, firstNumbers(ready)) || !slices.Equal(ownRow(m).Got, counts) || !slices.Equal(impl.Voice(m), voice) || int64(len(voice)) != ready {
			t.Fatalf("in calm %d sang %v of %v: %s", who, m.Sung, counts, toldGroup(got))
		}
		for other, r := range m.Rows {
			if !slices.Equal(r.Texts, ownRow(g.Members[other]).Texts) {
				t.Fatalf("in calm %d has these Texts of %d: %q", who, other, r.Texts)
			}
		}
		if ownRow(m).Wedged || m.Done {
			t.Fatalf("in calm %d ended: %s", who, toldMember(m))
		}
	}
	if again := impl.Calm(got); !alikeGroup(again, got) {
		t.Fatalf("Calm of %s is %s", toldGroup(got), toldGroup(again))
	}
	return got
}

// Promise 18: whatever was said, and wherever Rows were, where nobody doubts and all are Up.
func TestCalmSingsAllThatIsReady(t *testing.T) {
	lot := rand.New(rand.NewSource(183))
	kinds := []int64{impl.AcLand, impl.AcLand, impl.AcSay, impl.AcSay, impl.AcPush, impl.AcPush, impl.AcStep, impl.AcAll}
	full := 0
	for n := int64(1); n <= lastRow; n++ {
		for round := range 24 {
			list, some := []impl.Act{}, kinds
			if round%12 == 11 {
				// Nothing lands ahead of the calm.
				some = kinds[2:]
			}
			for range []int{0, 3, 12, 30, 90, 400}[round%6] {
				list = append(list, impl.Act{Kind: some[lot.Intn(len(some))], A: lot.Int63n(n), B: lot.Int63n(n), Text: fmt.Sprint(lot.Intn(1000))})
			}
			g, _ := impl.Play(newGroup(t, n), list)
			if len(g.Mails) == mostMails {
				full++
			}
			checkSingsAllReady(t, g)
		}
	}
	// With one who says nothing little is Ready; with 12 of each all of them are.
	for _, counts := range [][]int64{{0}, {12}, {12, 0}, {0, 12}, {12, 12}, {1, 0, 0}, {0, 0, 1}, {3, 2, 1}, {1, 2, 3}, {2, 2, 1, 2}, {12, 12, 12, 12, 12}, {12, 12, 12, 12, 11}, {11, 12, 12, 12, 12}} {
		got := checkSingsAllReady(t, saidGroup(t, counts...))
		if n := int64(len(counts)); counts[0] == 12 && counts[n-1] == 12 && int64(len(got.Members[0].Sung)) != 12*n {
			t.Fatalf("of %v this is sung: %v", counts, got.Members[0].Sung)
		}
	}
	if full < 6 {
		t.Fatalf("only %d scripts came to 200 Mails", full)
	}
}

// Mails that were on their way land ahead of those that come; with 200 of them the first time sends none.
func TestCalmWithMailsAhead(t *testing.T) {
	for n := int64(2); n <= lastRow; n++ {
		g := saidGroup(t, repeated(2, int(n))...)
		for _, count := range []int{1, 7, mostMails - 21, mostMails - 1, mostMails} {
			// What is on its way is what each had to tell at first, to each other one in turn.
			ahead := changedGroup(g, func(g *impl.Group) {
				for i, m := range mailed(*g, count).Mails {
					m.Row = copiedRow(ownRow(g.Members[m.From]))
					if i%2 == 0 {
						m.Row = impl.NewRow(n)
					}
					g.Mails = append(g.Mails, m)
				}
			})
			if len(ahead.Mails) != count {
				t.Fatalf("there are %d Mails", len(ahead.Mails))
			}
			checkSingsAllReady(t, ahead)
		}
	}
	// Of those with one Ver the first one is heard: none that comes later is Later.
	same := func(text string) impl.Row {
		return impl.Row{Ver: 2, Texts: []string{text, text}, Got: []int64{2, 0}}
	}
	g := saidGroup(t, 2, 0)
	g.Mails = []impl.Mail{{From: 0, To: 1, Row: same("first")}, {From: 0, To: 1, Row: same("second")}, {From: 0, To: 1, Row: same("last")}}
	if got := checkCalm(t, g).Members[1].Rows[0].Texts; !slices.Equal(got, []string{"first", "first"}) {
		t.Fatalf("of three that are not Later than one another this is heard: %q", got)
	}
	g.Mails = []impl.Mail{{From: 0, To: 1, Row: same("first")}, {From: 0, To: 1, Row: changed(same("second"), func(r *impl.Row) { r.Ver = 3 })}, {From: 0, To: 1, Row: same("last")}}
	if got := checkCalm(t, g).Members[1].Rows[0].Texts; !slices.Equal(got, []string{"second", "second"}) {
		t.Fatalf("of three, the second of which is Later, this is heard: %q", got)
	}
}

// relayRing is a group in which each one hears the one ahead of it alone: of the others it has Rows that none comes up to.
// Word goes round it a Member a time: first the Texts, and behind them the doubt of the last one, of whom first has not heard yet.
func relayRing(n, first int64) impl.Group {
	g := impl.Group{Up: slices.Repeat([]bool{true}, int(n))}
	for id := range n {
		m := impl.Member{Id: id, N: n}
		for who := range n {
			r := impl.Row{Ver: most, Got: repeated(0, int(n))}
			if who == (id+n-1)%n {
				r.Ver = 1
			}
			m.Rows = append(m.Rows, r)
		}
		own := &m.Rows[id]
		own.Ver, own.Texts, own.Got[id] = 1, []string{fmt.Sprint("of ", id)}, 1
		if id == first {
			own.Ver = 2
		}
		if id == (first+n-1)%n {
			own.Suspects = []int64{(first + 2) % n}
		}
		g.Members = append(g.Members, m)
	}
	return g
}

// wedgedInRing is how many are Wedged, from first on round the ring; the rest must not be.
func wedgedInRing(t *testing.T, g impl.Group, first int64) int {
	t.Helper()
	n := int64(len(g.Members))
	count := 0
	for i := range n {
		if ownRow(g.Members[(first+i)%n]).Wedged {
			if int64(count) != i {
				t.Fatalf("not the first ones are Wedged: %s", toldGroup(g))
			}
			count++
		}
	}
	return count
}

// Just eight times: the ring of five would go on changing in a ninth and a tenth, and in the eighth it changes.
func TestCalmIsEightTimes(t *testing.T) {
	for first := range int64(5) {
		g := relayRing(5, first)
		if !checkGroupOk(t, g) {
			t.Fatalf("the ring is not right: %s", toldGroup(g))
		}
		got := checkCalm(t, g)
		if wedgedInRing(t, got, first) != 3 {
			t.Fatalf("behind eight times of the ring that begins with %d: %s", first, toldGroup(got))
		}
		seventh := g
		for range 7 {
			seventh = calmOnceOf(seventh)
		}
		if wedgedInRing(t, seventh, first) != 2 || alikeGroup(calmOnceOf(got), got) {
			t.Fatalf("the ring that begins with %d does not change in the eighth or the ninth time", first)
		}
		if again := checkCalm(t, got); wedgedInRing(t, again, first) != 5 {
			t.Fatalf("behind sixteen times of the ring that begins with %d: %s", first, toldGroup(again))
		}
	}
	// Texts alone: of four and three, word is round once.
	for n := int64(3); n < 5; n++ {
		for first := range n {
			g := relayRing(n, first)
			g.Members[(first+n-1)%n].Rows[(first+n-1)%n].Suspects = nil
			got := checkCalm(t, g)
			for id, m := range got.Members {
				before := (int64(id) + n - 1) % n
				if ownRow(m).Got[before] != 1 || wedgedInRing(t, got, first) != 0 {
					t.Fatalf("word did not go round: %s", toldGroup(got))
				}
			}
		}
	}
}

// With 200 Mails ahead nothing is sent in the first time, so all comes a time later; with 199 one is, which is the first one's to the next.
func TestCalmWhereTheFirstTimeSendsLess(t *testing.T) {
	for _, c := range []struct {
		count  int
		first  int64
		wedged int
	}{{200, 0, 2}, {199, 0, 3}, {198, 0, 3}, {200, 1, 2}, {199, 1, 2}, {196, 1, 2}, {195, 1, 2}, {194, 1, 3}, {200, 4, 2}, {184, 4, 2}, {183, 4, 3}, {0, 4, 3}} {
		g := relayRing(5, c.first)
		for range c.count {
			g.Mails = append(g.Mails, impl.Mail{From: 2, To: 4, Row: impl.NewRow(5)})
		}
		if got := wedgedInRing(t, checkCalm(t, g), c.first); got != c.wedged {
			t.Fatalf("with %d Mails ahead, where %d begins, %d are Wedged, not %d", c.count, c.first, got, c.wedged)
		}
	}
}

// Who is not Up does nothing in a calm; those left sing no more than all have.
func TestCalmWithSomeNotUp(t *testing.T) {
	for n := int64(1); n <= lastRow; n++ {
		for _, fallen := range partsOf(n) {
			g := saidGroup(t, repeated(2, int(n))...)
			// The last thing that those who fall do is to push: to the first one alone.
			for _, who := range fallen {
				if who > 0 {
					g = checkDone(t, g, act(impl.AcPush, who, 0))
				}
				g = checkDone(t, g, act(impl.AcCrash, who, 0))
			}
			got := checkCalm(t, g)
			for who, m := range got.Members {
				if slices.Contains(fallen, int64(who)) {
					if !alikeMember(m, g.Members[who]) {
						t.Fatalf("%d of %d fell, and became %s", who, n, toldMember(m))
					}
					continue
				}
				sung := int64(0)
				if len(fallen) == 0 {
					sung = 2 * n
				}
				if m.Done || ownRow(m).Wedged || int64(len(m.Sung)) != sung {
					t.Fatalf("where %v of %d fell, %d is %s", fallen, n, who, toldMember(m))
				}
				for other, r := range m.Rows {
					hears := other == who || !slices.Contains(fallen, int64(other)) || who == 0
					if hears != (len(r.Texts) == 2) {
						t.Fatalf("where %v of %d fell, %d has of %d %q", fallen, n, who, other, r.Texts)
					}
				}
			}
			if len(fallen) == int(n) && !slices.EqualFunc(got.Members, g.Members, alikeMember) {
				t.Fatalf("where all fell: %s", toldGroup(got))
			}
		}
	}
}

// Where those that fell are doubted, those left are Done if they are more than half, and sing one song; else nobody is.
func TestCalmWithDoubts(t *testing.T) {
	for n := int64(1); n <= lastRow; n++ {
		for _, fallen := range partsOf(n) {
			left := slices.DeleteFunc(firstNumbers(n), func(who int64) bool { return slices.Contains(fallen, who) })
			if len(fallen) == 0 || len(left) == 0 {
				continue
			}
			for _, doubter := range left {
				g := saidGroup(t, repeated(2, int(n))...)
				g = impl.Calm(g)
				for _, who := range fallen {
					g = played(t, g, say(who, "lost"), act(impl.AcCrash, who, 0), act(impl.AcDoubt, doubter, who))
				}
				got := checkCalm(t, g)
				most := 2*len(left) > int(n)
				for _, who := range left {
					m := got.Members[who]
					own := ownRow(m)
					if !own.Wedged || !slices.Equal(own.Suspects, fallen) || m.Done != most || own.Ready != most || !slices.Equal(m.Sung, firstNumbers(2*n)) {
						t.Fatalf("where %v of %d fell and %d doubts, %d is %s", fallen, n, doubter, who, toldMember(m))
					}
					if most && (own.By != left[0] || !slices.Equal(own.Trim, repeated(2, int(n)))) {
						t.Fatalf("where %v of %d fell and %d doubts, %d ends as %s", fallen, n, doubter, who, toldRow(own))
					}
				}
				for _, who := range fallen {
					if !alikeMember(got.Members[who], g.Members[who]) {
						t.Fatalf("%d fell, and became %s", who, toldMember(got.Members[who]))
					}
				}
			}
		}
	}
}

// Doubts of several about several, of such that are Up, too: nobody is Done without more than half left to it, and who is Done has the Trim of those left.
func TestCalmWithManyDoubts(t *testing.T) {
	lot := rand.New(rand.NewSource(184))
	done, none := 0, 0
	for n := int64(2); n <= lastRow; n++ {
		for range 60 {
			g := saidGroup(t, drawnSmall(lot, n)...)
			if lot.Intn(2) == 0 {
				g = impl.Calm(g)
			}
			for range 1 + lot.Intn(3) {
				g, _ = checkHappen(t, g, act(impl.AcDoubt, lot.Int63n(n), lot.Int63n(n)))
			}
			if lot.Intn(2) == 0 {
				g, _ = checkHappen(t, g, act(impl.AcCrash, lot.Int63n(n), 0))
			}
			got := checkCalm(t, g)
			some := false
			for who, m := range got.Members {
				if !m.Done {
					continue
				}
				some = true
				if !areMoreThanHalf(m, leftTo(m)) || !g.Up[who] {
					t.Fatalf("%d is Done: %s", who, toldGroup(got))
				}
				for _, other := range leftTo(m) {
					if theirs := ownRow(got.Members[other]); !slices.Equal(theirs.Trim, ownRow(m).Trim) || theirs.By != ownRow(m).By {
						t.Fatalf("%d and %d ended unlike: %s", who, other, toldGroup(got))
					}
				}
			}
			if some {
				done++
			} else {
				none++
			}
		}
	}
	if done < 20 || none < 20 {
		t.Fatalf("in %d some are Done, in %d none", done, none)
	}
}

func drawnSmall(lot *rand.Rand, n int64) []int64 {
	out := []int64{}
	for range n {
		out = append(out, lot.Int63n(4))
	}
	return out
}

// Right groups of any kind: Rows that their owners do not have, Mails of anything.
func TestCalmOfManyDrawn(t *testing.T) {
	lot := rand.New(rand.NewSource(185))
	changes := 0
	for round := range 250 {
		g := drawnGroup(lot, 1+int64(round)%5)
		if round%10 == 9 {
			g.Mails = drawnMails(lot, int64(len(g.Members)), mostMails-lot.Intn(3))
		}
		if got := checkCalm(t, g); !slices.EqualFunc(got.Members, g.Members, alikeMember) {
			changes++
		}
	}
	if changes < 100 {
		t.Fatalf("only %d changed", changes)
	}
}
