package tests

import (
	"fmt"
	"math/rand"
	"slices"
	"strings"
	"testing"

	"loop.example/g00266/impl"
)

const (
	mostMails = 200
	mostActs  = 400
)

func alikeMail(a, b impl.Mail) bool {
	return a.From == b.From && a.To == b.To && alikeRow(a.Row, b.Row)
}

func alikeGroup(a, b impl.Group) bool {
	return slices.Equal(a.Up, b.Up) && slices.EqualFunc(a.Members, b.Members, alikeMember) && slices.EqualFunc(a.Mails, b.Mails, alikeMail)
}

func isZeroGroup(g impl.Group) bool { return alikeGroup(g, impl.Group{}) }

func copiedMail(m impl.Mail) impl.Mail {
	m.Row = copiedRow(m.Row)
	return m
}

func copiedGroup(g impl.Group) impl.Group {
	out := impl.Group{Up: slices.Clone(g.Up)}
	for _, m := range g.Members {
		out.Members = append(out.Members, copiedMember(m))
	}
	for _, m := range g.Mails {
		out.Mails = append(out.Mails, copiedMail(m))
	}
	return out
}

// changedGroup is a copy with the change, in memory of its own.
func changedGroup(g impl.Group, change func(g *impl.Group)) impl.Group {
	out := copiedGroup(g)
	change(&out)
	return out
}

func toldGroup(g impl.Group) string {
	s := fmt.Sprintf("%+v", g)
	return fmt.Sprintf("%q (%d Mails)", s[:min(len(s), 2500)], len(g.Mails))
}

func toldAct(a impl.Act) string {
	return fmt.Sprintf("{Kind %d, A %d, B %d, %s}", a.Kind, a.A, a.B, shortened(a.Text))
}

// isRightGroup is what the document asks of a Group, word by word.
func isRightGroup(g impl.Group) bool {
	n := int64(len(g.Members))
	if n < 1 || n > 5 || int64(len(g.Up)) != n || len(g.Mails) > 200 {
		return false
	}
	for i, m := range g.Members {
		if m.Id != int64(i) || m.N != n || !isRightMember(m) {
			return false
		}
	}
	for _, m := range g.Mails {
		if m.From < 0 || m.From >= n || m.To < 0 || m.To >= n || m.From == m.To || !isRow(m.Row, n) {
			return false
		}
	}
	return true
}

func usesB(kind int64) bool {
	return kind == impl.AcPush || kind == impl.AcLand || kind == impl.AcDoubt
}

// isSomeAct is false of what no group can take, whatever it is: no such Kind, A that is B, or a number that is none of any group's.
func isSomeAct(a impl.Act) bool {
	if a.Kind < 1 || a.Kind > 7 || a.A < 0 || a.A > 4 {
		return false
	}
	return !usesB(a.Kind) || a.B >= 0 && a.B <= 4 && a.A != a.B
}

// happenOf is what the document asks of Happen.
func happenOf(g impl.Group, a impl.Act) (impl.Group, int64) {
	out := copiedGroup(g)
	if !isSomeAct(a) {
		return out, 1
	}
	if !isRightGroup(g) {
		return impl.Group{}, 2
	}
	n := int64(len(g.Members))
	if a.A >= n || usesB(a.Kind) && a.B >= n || a.Kind != impl.AcLand && !g.Up[a.A] {
		return out, 1
	}
	code, says := int64(0), true
	switch a.Kind {
	case impl.AcSay:
		out.Members[a.A], says = sayOf(g.Members[a.A], a.Text)
	case impl.AcDoubt:
		out.Members[a.A], says = doubtOf(g.Members[a.A], a.B)
	case impl.AcStep:
		out.Members[a.A] = stepOf(g.Members[a.A])
	case impl.AcCrash:
		out.Up[a.A] = false
	case impl.AcPush:
		out.Mails = pushedOf(out, a.A, a.B)
	case impl.AcAll:
		for to := range n {
			if to != a.A {
				out.Mails = pushedOf(out, a.A, to)
			}
		}
	case impl.AcLand:
		out, code = landOf(out, a.A, a.B)
	}
	if !says {
		code = 1
	}
	return out, code
}

func pushedOf(g impl.Group, from, to int64) []impl.Mail {
	if len(g.Mails) >= 200 {
		return g.Mails
	}
	return append(g.Mails, impl.Mail{From: from, To: to, Row: copiedRow(ownRow(g.Members[from]))})
}

func landOf(g impl.Group, from, to int64) (impl.Group, int64) {
	for at, m := range g.Mails {
		if m.From == from && m.To == to {
			g.Mails = slices.Delete(slices.Clone(g.Mails), at, at+1)
			return comeOf(g, m), 0
		}
	}
	return g, 1
}

// comeOf is the group when a Mail has come to the one it was sent to.
func comeOf(g impl.Group, m impl.Mail) impl.Group {
	if g.Up[m.To] {
		g.Members[m.To], _ = heardOf(g.Members[m.To], m.From, m.Row)
	}
	return g
}

func playOf(g impl.Group, list []impl.Act) (impl.Group, []int64) {
	if len(list) > 400 || !isRightGroup(g) {
		return impl.Group{}, nil
	}
	out, codes := copiedGroup(g), []int64{}
	for _, a := range list {
		next, code := happenOf(out, a)
		out, codes = next, append(codes, code)
	}
	return out, codes
}

func checkGroupOk(t *testing.T, g impl.Group) bool {
	t.Helper()
	got := impl.GroupOk(g)
	if got != isRightGroup(g) {
		t.Fatalf("GroupOk(%s) is %v", toldGroup(g), got)
	}
	return got
}

// Promise 18: a right group stays right, and so does what promise 17 says of each of its Members.
func checkStaysGroup(t *testing.T, what string, was, now impl.Group) {
	t.Helper()
	if !impl.GroupOk(was) {
		return
	}
	if !impl.GroupOk(now) || !isRightGroup(now) || len(now.Members) != len(was.Members) {
		t.Fatalf("%s: %s is no right group any more: %s", what, toldGroup(was), toldGroup(now))
	}
	for i := range was.Members {
		checkStaysMember(t, what, was.Members[i], now.Members[i])
		if now.Up[i] && !was.Up[i] {
			t.Fatalf("%s: %d is Up again: %s", what, i, toldGroup(now))
		}
	}
}

func checkHappen(t *testing.T, g impl.Group, a impl.Act) (impl.Group, int64) {
	t.Helper()
	got, code := impl.Happen(g, a)
	want, wantCode := happenOf(g, a)
	if code != wantCode || !alikeGroup(got, want) {
		t.Fatalf("Happen %s at %s is\n%s, %d, not\n%s, %d", toldAct(a), toldGroup(g), toldGroup(got), code, toldGroup(want), wantCode)
	}
	if code == 1 && !alikeGroup(got, g) || code == 2 && !isZeroGroup(got) || code < 0 || code > 2 {
		t.Fatalf("Happen %s at %s is %s, %d", toldAct(a), toldGroup(g), toldGroup(got), code)
	}
	checkStaysGroup(t, toldAct(a), g, got)
	return got, code
}

// checkDone asks for code 0, checkNothing for code 1 and the group as it was.
func checkDone(t *testing.T, g impl.Group, a impl.Act) impl.Group {
	t.Helper()
	got, code := checkHappen(t, g, a)
	if code != 0 {
		t.Fatalf("Happen %s at %s is %d", toldAct(a), toldGroup(g), code)
	}
	return got
}

func checkNothing(t *testing.T, g impl.Group, a impl.Act) {
	t.Helper()
	got, code := checkHappen(t, g, a)
	if code != 1 || !alikeGroup(got, g) {
		t.Fatalf("Happen %s at %s is %s, %d", toldAct(a), toldGroup(g), toldGroup(got), code)
	}
}

func checkPlay(t *testing.T, g impl.Group, list []impl.Act) (impl.Group, []int64) {
	t.Helper()
	got, codes := impl.Play(g, list)
	want, wantCodes := playOf(g, list)
	if !slices.Equal(codes, wantCodes) || !alikeGroup(got, want) {
		t.Fatalf("Play of %d acts at %s is\n%s, %v, not\n%s, %v", len(list), toldGroup(g), toldGroup(got), codes, toldGroup(want), wantCodes)
	}
	return got, codes
}

func newGroup(t *testing.T, n int64) impl.Group {
	t.Helper()
	g, ok := impl.NewGroup(n)
	if !ok {
		t.Fatalf("NewGroup(%d) is false", n)
	}
	return g
}

func act(kind, a, b int64) impl.Act { return impl.Act{Kind: kind, A: a, B: b, Text: "x"} }

func say(a int64, text string) impl.Act { return impl.Act{Kind: impl.AcSay, A: a, Text: text} }

// played is what comes of all these, each of which is done.
func played(t *testing.T, g impl.Group, list ...impl.Act) impl.Group {
	t.Helper()
	for _, a := range list {
		g = checkDone(t, g, a)
	}
	return g
}

// saidGroup is a group whose Members said this many each; nothing is on its way.
func saidGroup(t *testing.T, counts ...int64) impl.Group {
	t.Helper()
	g := newGroup(t, int64(len(counts)))
	for who, count := range counts {
		for i := range count {
			g = checkDone(t, g, say(int64(who), fmt.Sprintf("%d.%d", who, i)))
		}
	}
	return g
}

// ripeGroup is one in which each Kind is done by each of them: each said something, and pushed it to each other one.
func ripeGroup(t *testing.T, n int64) impl.Group {
	t.Helper()
	g := saidGroup(t, repeated(1, int(n))...)
	for who := range n {
		g = checkDone(t, g, act(impl.AcAll, who, 0))
	}
	return g
}

// mailed has this many Mails on their way, each as the ones before in turn: from each to each other one, whose Rows tell them apart.
func mailed(g impl.Group, count int) impl.Group {
	return changedGroup(g, func(g *impl.Group) {
		n := int64(len(g.Members))
		g.Mails = nil
		for i := range count {
			from, by := int64(i)%n, 1+int64(i)/n%(n-1)
			row := impl.Row{Ver: 1 + int64(i)%5, Texts: []string{fmt.Sprint("mail ", i)}, Got: repeated(1, int(n))}
			g.Mails = append(g.Mails, impl.Mail{From: from, To: (from + by) % n, Row: row})
		}
	})
}

// drawnMails are right ones of n, none of a group of one.
func drawnMails(lot *rand.Rand, n int64, count int) []impl.Mail {
	var out []impl.Mail
	for range count {
		if n == 1 {
			break
		}
		from := lot.Int63n(n)
		row := drawnRow(lot, n)
		if lot.Intn(2) == 0 {
			row.Ver = lot.Int63n(9)
		}
		out = append(out, impl.Mail{From: from, To: (from + 1 + lot.Int63n(n-1)) % n, Row: row})
	}
	return out
}

// drawnGroup is a right one whose Members' Rows need not be what the others have of them.
func drawnGroup(lot *rand.Rand, n int64) impl.Group {
	g := impl.Group{}
	for id := range n {
		m := nearMemberOf(lot, id, n)
		if lot.Intn(4) == 0 {
			m = farMemberOf(lot, id, n)
		}
		g.Members, g.Up = append(g.Members, m), append(g.Up, lot.Intn(5) > 0)
	}
	g.Mails = drawnMails(lot, n, lot.Intn(8))
	return g
}

// drawnAct is mostly one that may be done; doubts and falls are rare, so that there is something to sing first.
func drawnAct(lot *rand.Rand, n int64) impl.Act {
	kinds := []int64{impl.AcSay, impl.AcSay, impl.AcPush, impl.AcPush, impl.AcLand, impl.AcLand, impl.AcLand, impl.AcLand, impl.AcLand, impl.AcLand, impl.AcStep, impl.AcStep, impl.AcStep, impl.AcAll}
	a := act(kinds[lot.Intn(len(kinds))], lot.Int63n(n), lot.Int63n(n))
	a.Text = fmt.Sprint("t", lot.Intn(1000))
	if lot.Intn(40) == 0 {
		a.Kind = []int64{impl.AcDoubt, impl.AcDoubt, impl.AcCrash}[lot.Intn(3)]
	}
	switch lot.Intn(60) {
	case 0:
		a.Kind = lot.Int63n(11) - 1
	case 1:
		a.A = lot.Int63n(9) - 2
	case 2:
		a.B = lot.Int63n(9) - 2
	case 3:
		a.Text = drawnText(lot, lot.Intn(24))
	}
	return a
}

func drawnScript(lot *rand.Rand, n int64, count int) []impl.Act {
	out := []impl.Act{}
	for range count {
		out = append(out, drawnAct(lot, n))
	}
	return out
}

func TestNewGroup(t *testing.T) {
	for _, n := range rowLengths() {
		g, ok := impl.NewGroup(n)
		right := n >= 1 && n <= 5
		if ok != right || impl.GroupOk(g) != right || !right && !isZeroGroup(g) {
			t.Fatalf("NewGroup(%d) is %s, %v", n, toldGroup(g), ok)
		}
		if !right {
			continue
		}
		if int64(len(g.Members)) != n || int64(len(g.Up)) != n || slices.Contains(g.Up, false) || len(g.Mails) > 0 {
			t.Fatalf("NewGroup(%d) is %s", n, toldGroup(g))
		}
		for id, m := range g.Members {
			if !alikeMember(m, newMember(t, int64(id), n)) {
				t.Fatalf("Member %d of NewGroup(%d) is %s", id, n, toldMember(m))
			}
		}
		// A new one has nothing to tell: it is calm.
		if got := impl.Calm(g); !alikeGroup(got, g) {
			t.Fatalf("Calm of NewGroup(%d) is %s", n, toldGroup(got))
		}
	}
}

// Each Kind by itself, written out: what it changes, and nothing else.
func TestActsWrittenOut(t *testing.T) {
	first := impl.Row{Ver: 1, Texts: []string{"la"}, Got: []int64{1, 0, 0}}
	second := impl.Row{Got: []int64{0, 0, 0}}
	same := func(g *impl.Group) {}
	g := newGroup(t, 3)
	for _, c := range []struct {
		what   string
		act    impl.Act
		code   int64
		change func(g *impl.Group)
	}{
		{"0 says", say(0, "la"), 0, func(g *impl.Group) { g.Members[0].Rows[0] = first }},
		{"0 pushes to 2", act(impl.AcPush, 0, 2), 0, func(g *impl.Group) { g.Mails = []impl.Mail{{From: 0, To: 2, Row: first}} }},
		{"1 pushes to all", act(impl.AcAll, 1, 1), 0, func(g *impl.Group) {
			g.Mails = []impl.Mail{{From: 0, To: 2, Row: first}, {From: 1, To: 0, Row: second}, {From: 1, To: 2, Row: second}}
		}},
		{"it lands at 2", act(impl.AcLand, 0, 2), 0, func(g *impl.Group) { g.Members[2].Rows[0], g.Mails = first, g.Mails[1:] }},
		{"there is no other one", act(impl.AcLand, 0, 2), 1, same},
		{"nor one the other way", act(impl.AcLand, 2, 0), 1, same},
		{"2 steps", act(impl.AcStep, 2, 2), 0, func(g *impl.Group) { g.Members[2].Rows[2] = impl.Row{Ver: 1, Got: []int64{1, 0, 0}} }},
		{"1 steps, and nothing changes", act(impl.AcStep, 1, 0), 0, same},
		{"2 doubts 1", act(impl.AcDoubt, 2, 1), 0, func(g *impl.Group) {
			g.Members[2].Rows[2] = impl.Row{Ver: 2, Got: []int64{1, 0, 0}, Wedged: true, Suspects: []int64{1}}
		}},
		{"2 doubts 1 already", act(impl.AcDoubt, 2, 1), 1, same},
		{"2 is Wedged", say(2, "no"), 1, same},
		{"a Mail of one in doubt", act(impl.AcLand, 1, 2), 0, func(g *impl.Group) { g.Mails = g.Mails[:1] }},
		{"1 falls", act(impl.AcCrash, 1, 1), 0, func(g *impl.Group) { g.Up = []bool{true, false, true} }},
		{"1 has fallen", act(impl.AcCrash, 1, 1), 1, same},
		{"and says nothing", say(1, "no"), 1, same},
		{"its Mail lands", act(impl.AcLand, 1, 0), 0, func(g *impl.Group) { g.Mails = nil }},
		{"0 pushes to it", act(impl.AcPush, 0, 1), 0, func(g *impl.Group) { g.Mails = []impl.Mail{{From: 0, To: 1, Row: first}} }},
		{"and that is not heard", act(impl.AcLand, 0, 1), 0, func(g *impl.Group) { g.Mails = nil }},
	} {
		got, code := checkHappen(t, g, c.act)
		want := changedGroup(g, c.change)
		if code != c.code || !alikeGroup(got, want) {
			t.Fatalf("%s: Happen is %s, %d, not %s, %d", c.what, toldGroup(got), code, toldGroup(want), c.code)
		}
		g = got
	}
}

// Promise 18: scripts of many acts in many orders; after each act the group is right, and Play is its acts one by one.
func TestScriptsInManyOrders(t *testing.T) {
	lot := rand.New(rand.NewSource(180))
	seen := map[string]int{}
	for n := int64(1); n <= lastRow; n++ {
		for round := range 8 {
			start := newGroup(t, n)
			if round > 4 {
				start = drawnGroup(lot, n)
			}
			list := drawnScript(lot, n, 150+50*(round%6))
			g, codes, mails := start, []int64{}, 0
			for _, a := range list {
				next, code := checkHappen(t, g, a)
				g, codes, mails = next, append(codes, code), max(mails, len(next.Mails))
				seen[fmt.Sprint("Kind ", a.Kind, ", code ", code)]++
			}
			got, gotCodes := impl.Play(start, list)
			if !alikeGroup(got, g) || !slices.Equal(gotCodes, codes) {
				t.Fatalf("Play of %d acts is %s, %v, not %s, %v", len(list), toldGroup(got), gotCodes, toldGroup(g), codes)
			}
			// And in two parts it is the same.
			at := lot.Intn(len(list) + 1)
			half, firstCodes := impl.Play(start, list[:at])
			got, gotCodes = impl.Play(half, list[at:])
			if !alikeGroup(got, g) || !slices.Equal(append(firstCodes, gotCodes...), codes) {
				t.Fatalf("Play in two parts is %s, not %s", toldGroup(got), toldGroup(g))
			}
			checkStaysGroup(t, "a script", start, g)
			checkCalm(t, g)
			for _, m := range g.Members {
				seen["sung"] += len(m.Sung)
				if m.Done {
					seen["Done"]++
				}
			}
		}
	}
	for kind := int64(1); kind <= 7; kind++ {
		for code := range int64(2) {
			if what := fmt.Sprint("Kind ", kind, ", code ", code); seen[what] < 10 {
				t.Fatalf("%s came up %d times: %v", what, seen[what], seen)
			}
		}
	}
	if seen["sung"] < 200 || seen["Done"] < 5 {
		t.Fatalf("only these came up: %v", seen)
	}
}

// Right groups of any kind, each act between each two of them.
func TestManyDrawnGroups(t *testing.T) {
	lot := rand.New(rand.NewSource(181))
	for round := range 60 {
		g := drawnGroup(lot, 1+int64(round)%5)
		if !checkGroupOk(t, g) {
			t.Fatalf("GroupOk(%s) is false", toldGroup(g))
		}
		n := int64(len(g.Members))
		for kind := int64(0); kind <= 8; kind++ {
			for a := int64(-1); a <= n; a++ {
				for b := int64(-1); b <= n; b++ {
					checkHappen(t, g, act(kind, a, b))
				}
			}
		}
		checkPlay(t, g, drawnScript(lot, n, 30))
		checkCalm(t, g)
	}
}

func noKinds() []int64 {
	return append(ends(), 0, 8, 9, 10, -3, -7, 256, 257, 1<<16+2, 1<<32, 1<<32+1, 1<<32+7)
}

func TestNoSuchKind(t *testing.T) {
	for n := int64(1); n <= lastRow; n++ {
		g := ripeGroup(t, n)
		for _, kind := range noKinds() {
			for a := range n {
				for b := range n {
					checkNothing(t, g, act(kind, a, b))
				}
			}
			checkNothing(t, g, act(kind, -1, n))
		}
	}
	checkNothing(t, newGroup(t, 2), impl.Act{})
}

// noOnes are numbers that no Member of n has.
func noOnes(n int64) []int64 {
	return append(ends(), n, n+1, 5, 6, 256, 256+n-1, 1<<16, 1<<32, 1<<32+n-1, -1<<32)
}

func TestNoSuchOne(t *testing.T) {
	for n := int64(1); n <= lastRow; n++ {
		g := ripeGroup(t, n)
		for kind := int64(1); kind <= 7; kind++ {
			for _, none := range noOnes(n) {
				checkNothing(t, g, act(kind, none, none))
				for who := range n {
					checkNothing(t, g, act(kind, none, who))
					if usesB(kind) {
						checkNothing(t, g, act(kind, who, none))
					}
				}
			}
		}
	}
}

// What a Kind does not use is not asked: whatever B and Text are, the answer is the same.
func TestWhatAKindDoesNotUse(t *testing.T) {
	for n := int64(1); n <= lastRow; n++ {
		g := ripeGroup(t, n)
		for kind := int64(1); kind <= 7; kind++ {
			for a := range n {
				b := (a + 1) % n
				if usesB(kind) && a == b {
					continue
				}
				want := checkDone(t, g, act(kind, a, b))
				for _, other := range append(noOnes(n), firstNumbers(n)...) {
					if usesB(kind) {
						break
					}
					if got := checkDone(t, g, act(kind, a, other)); !alikeGroup(got, want) {
						t.Fatalf("Kind %d with B %d is %s, not %s", kind, other, toldGroup(got), toldGroup(want))
					}
				}
				for _, text := range []string{"", "y", strings.Repeat("x", 21), strings.Repeat("x", 100000)} {
					if kind == impl.AcSay {
						break
					}
					if got := checkDone(t, g, impl.Act{Kind: kind, A: a, B: b, Text: text}); !alikeGroup(got, want) {
						t.Fatalf("Kind %d with a text is %s, not %s", kind, toldGroup(got), toldGroup(want))
					}
				}
			}
		}
	}
}

func TestAThatIsB(t *testing.T) {
	for n := int64(1); n <= lastRow; n++ {
		g := ripeGroup(t, n)
		for kind := int64(1); kind <= 7; kind++ {
			for who := range n {
				if usesB(kind) {
					checkNothing(t, g, act(kind, who, who))
				} else {
					checkDone(t, g, act(kind, who, who))
				}
			}
		}
	}
}

// Who is not Up does nothing; but its Mails land, and others push to it and doubt it.
func TestNotUp(t *testing.T) {
	for n := int64(2); n <= lastRow; n++ {
		for fallen := range n {
			g := checkDone(t, ripeGroup(t, n), act(impl.AcCrash, fallen, 0))
			if slices.Index(g.Up, false) != int(fallen) || slices.Contains(g.Up[fallen+1:], false) {
				t.Fatalf("Up is %v when %d has fallen", g.Up, fallen)
			}
			for other := range n {
				if other == fallen {
					continue
				}
				for kind := int64(1); kind <= 7; kind++ {
					if kind != impl.AcLand {
						checkNothing(t, g, act(kind, fallen, other))
					}
				}
				// From it: it is heard. To it: it goes, and is not heard.
				got := checkDone(t, g, act(impl.AcLand, fallen, other))
				if len(got.Mails) != len(g.Mails)-1 || !alikeRow(got.Members[other].Rows[fallen], ownRow(g.Members[fallen])) {
					t.Fatalf("a Mail of one that fell: %s", toldGroup(got))
				}
				got = checkDone(t, g, act(impl.AcLand, other, fallen))
				if len(got.Mails) != len(g.Mails)-1 || !alikeMember(got.Members[fallen], g.Members[fallen]) {
					t.Fatalf("a Mail to one that fell: %s", toldGroup(got))
				}
				checkDone(t, g, act(impl.AcPush, other, fallen))
				checkDone(t, g, act(impl.AcDoubt, other, fallen))
				if got = checkDone(t, g, act(impl.AcAll, other, 0)); len(got.Mails) != len(g.Mails)+int(n)-1 {
					t.Fatalf("%d pushed to all: %s", other, toldGroup(got))
				}
			}
		}
	}
	// Both not Up: the Mail goes, too.
	g := played(t, ripeGroup(t, 3), act(impl.AcCrash, 0, 1), act(impl.AcCrash, 1, 0))
	if got := checkDone(t, g, act(impl.AcLand, 0, 1)); len(got.Mails) != 5 || !slices.EqualFunc(got.Members, g.Members, alikeMember) {
		t.Fatalf("a Mail between two that fell: %s", toldGroup(got))
	}
	checkNothing(t, checkDone(t, g, act(impl.AcLand, 0, 1)), act(impl.AcLand, 0, 1))
}

// Of several Mails from A to B the first one goes, wherever it is; the order of the rest stays.
func TestFirstMailLands(t *testing.T) {
	for n := int64(2); n <= lastRow; n++ {
		for _, count := range []int{1, 2, 3, 11, 60, mostMails} {
			g := mailed(newGroup(t, n), count)
			for from := range n {
				for to := range n {
					at := slices.IndexFunc(g.Mails, func(m impl.Mail) bool { return m.From == from && m.To == to })
					if at < 0 {
						checkNothing(t, g, act(impl.AcLand, from, to))
						continue
					}
					got := checkDone(t, g, act(impl.AcLand, from, to))
					if !slices.EqualFunc(got.Mails, slices.Delete(slices.Clone(g.Mails), at, at+1), alikeMail) {
						t.Fatalf("when the Mail at %d of %d landed, these are left: %s", at, count, toldGroup(got))
					}
					if !alikeRow(got.Members[to].Rows[from], g.Mails[at].Row) {
						t.Fatalf("when the Mail at %d of %d landed: %s", at, count, toldGroup(got))
					}
				}
			}
		}
	}
	row := func(text string, ver int64) impl.Row {
		return impl.Row{Ver: ver, Texts: []string{text}, Got: []int64{0, 0, 0}}
	}
	g := changedGroup(newGroup(t, 3), func(g *impl.Group) {
		g.Mails = []impl.Mail{{From: 2, To: 1, Row: row("a", 1)}, {From: 0, To: 1, Row: row("b", 4)}, {From: 1, To: 0, Row: row("c", 1)}, {From: 0, To: 1, Row: row("d", 3)}, {From: 2, To: 1, Row: row("e", 2)}, {From: 0, To: 1, Row: row("f", 5)}}
	})
	for i, want := range []string{"b ace df", "b ace f", "f ace "} {
		g = checkDone(t, g, act(impl.AcLand, 0, 1))
		told := g.Members[1].Rows[0].Texts[0] + " "
		for _, from := range []bool{false, true} {
			for _, m := range g.Mails {
				if from == (m.From == 0) {
					told += m.Row.Texts[0]
				}
			}
			if !from {
				told += " "
			}
		}
		if strings.TrimSpace(told) != strings.TrimSpace(want) {
			t.Fatalf("behind landing %d it is %q, not %q", i, told, want)
		}
	}
	checkNothing(t, g, act(impl.AcLand, 0, 1))
}

// A Mail that is not heard goes all the same.
func TestMailsThatAreNotHeard(t *testing.T) {
	base := saidGroup(t, 2, 1, 0)
	later := impl.Row{Ver: 9, Texts: []string{"later"}, Got: []int64{1, 1, 1}}
	lands := func(what string, g impl.Group, row impl.Row, heard bool) {
		t.Helper()
		g = changedGroup(g, func(g *impl.Group) {
			g.Mails = []impl.Mail{{From: 1, To: 2, Row: later}, {From: 0, To: 1, Row: row}, {From: 0, To: 2, Row: later}}
		})
		got := checkDone(t, g, act(impl.AcLand, 0, 1))
		if len(got.Mails) != 2 || got.Mails[0].From != 1 || got.Mails[1].To != 2 {
			t.Fatalf("%s: these are left: %s", what, toldGroup(got))
		}
		want := copiedGroup(g)
		if heard {
			want.Members[1].Rows[0] = row
		}
		if !slices.EqualFunc(got.Members, want.Members, alikeMember) {
			t.Fatalf("%s: %s", what, toldGroup(got))
		}
		checkNothing(t, got, act(impl.AcLand, 0, 1))
	}
	with := func(change func(m *impl.Member)) impl.Group {
		return changedGroup(base, func(g *impl.Group) { change(&g.Members[1]) })
	}
	having := with(func(m *impl.Member) { m.Rows[0] = impl.Row{Ver: 9, Texts: []string{"it has"}, Got: []int64{0, 0, 0}} })
	lands("Later", base, later, true)
	lands("Later by one", having, changed(later, func(r *impl.Row) { r.Ver = 10 }), true)
	lands("the same Ver", having, later, false)
	lands("less", having, changed(later, func(r *impl.Row) { r.Ver = 8 }), false)
	lands("the very Row that it has", having, copiedRow(having.Members[1].Rows[0]), false)
	lands("in doubt", with(func(m *impl.Member) { m.Rows[1] = wedgedRow(m.Rows[1], 0) }), later, false)
	lands("another one in doubt", with(func(m *impl.Member) { m.Rows[1] = wedgedRow(m.Rows[1], 2) }), later, true)
	lands("Wedged", with(func(m *impl.Member) { m.Rows[1].Wedged = true }), later, true)
	lands("Ready", with(func(m *impl.Member) { m.Rows[1] = readyRow(m.Rows[1], 1, 0, 0, 0) }), later, true)
	lands("Done", with(func(m *impl.Member) { m.Rows[1], m.Done = readyRow(m.Rows[1], 1, 0, 0, 0), true }), later, false)
	lands("not Up", changedGroup(base, func(g *impl.Group) { g.Up[1] = false }), later, false)
	lands("sent by one that is not Up", changedGroup(base, func(g *impl.Group) { g.Up[0] = false }), later, true)
	lands("sent by one that is Done", changedGroup(base, func(g *impl.Group) {
		g.Members[0].Rows[0], g.Members[0].Done = readyRow(g.Members[0].Rows[0], 1, 0, 0, 0), true
	}), later, true)
}

// Where a Member says false the act is not done.
func TestSaysFalse(t *testing.T) {
	g := saidGroup(t, 0, 1, 12)
	wedged := changedGroup(g, func(g *impl.Group) { g.Members[1].Rows[1].Wedged = true })
	ended := changedGroup(g, func(g *impl.Group) {
		g.Members[1].Rows[1], g.Members[1].Done = readyRow(g.Members[1].Rows[1], 1, 0, 0, 0), true
	})
	doubting := checkDone(t, g, act(impl.AcDoubt, 1, 2))
	last := changedGroup(g, func(g *impl.Group) { g.Members[1].Rows[1].Ver = most })
	for _, text := range []string{"", "x", strings.Repeat("x", 20)} {
		checkDone(t, g, say(1, text))
		for _, g := range []impl.Group{wedged, ended, doubting, last} {
			checkNothing(t, g, say(1, text))
			checkDone(t, g, say(0, text))
		}
		checkNothing(t, g, say(2, text))
	}
	for _, length := range []int{21, 22, 256, 276, 1000000} {
		checkNothing(t, g, say(1, strings.Repeat("x", length)))
	}
	for _, text := range saidTexts() {
		if got := checkDone(t, g, say(1, text)); ownRow(got.Members[1]).Texts[1] != text {
			t.Fatalf("%q is said as %s", text, toldGroup(got))
		}
	}
	checkNothing(t, doubting, act(impl.AcDoubt, 1, 2))
	checkDone(t, doubting, act(impl.AcDoubt, 1, 0))
	checkDone(t, doubting, act(impl.AcDoubt, 0, 2))
	for _, who := range []int64{0, 2} {
		checkDone(t, wedged, act(impl.AcDoubt, 1, who))
		checkNothing(t, ended, act(impl.AcDoubt, 1, who))
		checkDone(t, ended, act(impl.AcDoubt, who, 1))
		checkNothing(t, last, act(impl.AcDoubt, 1, who))
	}
}

// A Step is done, whether it changes anything or not.
func TestStepsThatChangeNothing(t *testing.T) {
	for n := int64(1); n <= lastRow; n++ {
		for _, g := range []impl.Group{newGroup(t, n), impl.Calm(ripeGroup(t, n)), changedGroup(newGroup(t, n), func(g *impl.Group) {
			for id := range g.Members {
				g.Members[id] = endedMember(n, int64(id))
			}
		})} {
			for who := range n {
				if got := checkDone(t, g, act(impl.AcStep, who, 0)); !alikeGroup(got, g) {
					t.Fatalf("a Step of %d at %s is %s", who, toldGroup(g), toldGroup(got))
				}
			}
		}
		// And one changes itself alone.
		g := saidGroup(t, repeated(2, int(n))...)
		for who := range n {
			got := checkDone(t, g, act(impl.AcStep, who, 0))
			for other := range n {
				if other != who && !alikeMember(got.Members[other], g.Members[other]) {
					t.Fatalf("a Step of %d changed %d: %s", who, other, toldGroup(got))
				}
			}
		}
	}
}

// At most 200 Mails are on their way: what is sent beyond that is lost, and the act is done.
func TestMailsAtTheLimit(t *testing.T) {
	for n := int64(2); n <= lastRow; n++ {
		for count := mostMails - int(n) - 1; count <= mostMails; count++ {
			g := mailed(saidGroup(t, repeated(1, int(n))...), count)
			for from := range n {
				to := (from + 1) % n
				got := checkDone(t, g, act(impl.AcPush, from, to))
				if len(got.Mails) != min(mostMails, count+1) || !slices.EqualFunc(got.Mails[:count], g.Mails, alikeMail) {
					t.Fatalf("a push at %d Mails: %s", count, toldGroup(got))
				}
				got = checkDone(t, g, act(impl.AcAll, from, 0))
				if len(got.Mails) != min(mostMails, count+int(n)-1) || !slices.EqualFunc(got.Mails[:count], g.Mails, alikeMail) {
					t.Fatalf("a push to all at %d Mails: %s", count, toldGroup(got))
				}
				// Those that come are the first ones, in order.
				others := slices.DeleteFunc(firstNumbers(n), func(who int64) bool { return who == from })
				for i, m := range got.Mails[count:] {
					if m.From != from || m.To != others[i] || !alikeRow(m.Row, ownRow(g.Members[from])) {
						t.Fatalf("a push to all at %d Mails: Mail %d is %+v", count, i, m)
					}
				}
			}
		}
		// A Mail that lands leaves room for one: that comes at the end.
		g := mailed(saidGroup(t, repeated(1, int(n))...), mostMails)
		got := played(t, g, act(impl.AcLand, 0, 1), act(impl.AcPush, 1, 0), act(impl.AcPush, 0, 1))
		if len(got.Mails) != mostMails || !alikeMail(got.Mails[mostMails-1], impl.Mail{From: 1, To: 0, Row: ownRow(g.Members[1])}) {
			t.Fatalf("where one landed: %s", toldGroup(got))
		}
	}
}

func TestPushOfAGroupOfOne(t *testing.T) {
	g := saidGroup(t, 3)
	if got := checkDone(t, g, act(impl.AcAll, 0, 0)); !alikeGroup(got, g) {
		t.Fatalf("one alone pushed to all: %s", toldGroup(got))
	}
	checkNothing(t, g, act(impl.AcPush, 0, 0))
	checkNothing(t, g, act(impl.AcLand, 0, 0))
	checkNothing(t, g, act(impl.AcDoubt, 0, 0))
	checkNothing(t, g, act(impl.AcPush, 0, 1))
	g = checkDone(t, checkDone(t, g, act(impl.AcStep, 0, 0)), act(impl.AcCrash, 0, 0))
	if g.Up[0] || len(g.Members[0].Sung) != 3 {
		t.Fatalf("one alone is %s", toldGroup(g))
	}
	checkNothing(t, g, act(impl.AcAll, 0, 0))
}

// A Mail is the Row as it was when it was sent, whatever becomes of the one who sent it.
func TestMailHoldsTheRowAsItWas(t *testing.T) {
	for n := int64(2); n <= lastRow; n++ {
		for from := range n {
			to, third := (from+1)%n, (from+n-1)%n
			g := saidGroup(t, repeated(1, int(n))...)
			was := copiedRow(ownRow(g.Members[from]))
			g = played(t, g, act(impl.AcPush, from, to), act(impl.AcPush, third, from), say(from, "more"), act(impl.AcLand, third, from), act(impl.AcStep, from, 0), act(impl.AcPush, from, to), act(impl.AcDoubt, from, to), act(impl.AcCrash, from, 0))
			if !alikeRow(g.Mails[0].Row, was) {
				t.Fatalf("the Mail became %s, which was %s", toldRow(g.Mails[0].Row), toldRow(was))
			}
			// The other one has what came between; and no doubt, which came behind it.
			if next := g.Mails[1].Row; len(next.Texts) != 2 || next.Got[from] != 2 || next.Got[third] != 1 || next.Wedged || len(next.Suspects) > 0 {
				t.Fatalf("the second Mail is %s", toldRow(next))
			}
			if own := ownRow(g.Members[from]); !own.Wedged || len(own.Texts) != 2 {
				t.Fatalf("the one who sent it is %s", toldRow(own))
			}
			g = checkDone(t, g, act(impl.AcLand, from, to))
			if !alikeRow(g.Members[to].Rows[from], was) {
				t.Fatalf("heard is %s, not %s", toldRow(g.Members[to].Rows[from]), toldRow(was))
			}
		}
	}
}

// Each of two says, and each sings both; then one falls, and half of two can't end.
func TestPlayWrittenOut(t *testing.T) {
	list := []impl.Act{say(0, "la"), say(1, "do"), act(impl.AcAll, 0, 0), act(impl.AcAll, 1, 0), act(impl.AcLand, 0, 1), act(impl.AcLand, 1, 0), act(impl.AcStep, 0, 0), act(impl.AcStep, 1, 0),
		act(impl.AcPush, 0, 1), act(impl.AcPush, 1, 0), act(impl.AcLand, 0, 1), act(impl.AcLand, 1, 0), act(impl.AcLand, 1, 0), act(impl.AcStep, 0, 0), act(impl.AcStep, 1, 0),
		act(impl.AcCrash, 1, 0), act(impl.AcStep, 1, 0), act(impl.AcDoubt, 0, 1), act(impl.AcStep, 0, 0), {Kind: 8}}
	g, codes := checkPlay(t, newGroup(t, 2), list)
	if !slices.Equal(codes, []int64{0, 0, 0, 0, 0, 0, 0, 0, 0, 0, 0, 0, 1, 0, 0, 0, 1, 0, 0, 1}) {
		t.Fatalf("the codes are %v", codes)
	}
	for who, m := range g.Members {
		if voice := impl.Voice(m); !slices.Equal(voice, []string{"la", "do"}) || m.Done {
			t.Fatalf("%d sang %q: %s", who, voice, toldMember(m))
		}
	}
	if own := ownRow(g.Members[0]); !own.Wedged || own.Ready || own.Ver != 3 || g.Up[1] || !g.Up[0] || len(g.Mails) > 0 {
		t.Fatalf("Play is %s", toldGroup(g))
	}
}

// As many as 400 are played, and no further one; at a group that is not right none at all.
func TestPlayAtTheLimits(t *testing.T) {
	lot := rand.New(rand.NewSource(182))
	for n := int64(1); n <= lastRow; n++ {
		g := saidGroup(t, repeated(1, int(n))...)
		for _, list := range [][]impl.Act{nil, {}} {
			if got, codes := checkPlay(t, g, list); !alikeGroup(got, g) || len(codes) > 0 {
				t.Fatalf("Play of nothing is %s, %v", toldGroup(got), codes)
			}
		}
		long := drawnScript(lot, n, mostActs+1)
		for _, count := range []int{1, 2, mostActs - 1, mostActs} {
			if got, codes := checkPlay(t, g, long[:count]); len(codes) != count || isZeroGroup(got) {
				t.Fatalf("Play of %d acts has %d codes", count, len(codes))
			}
		}
		// The last one of 400 is done.
		steps := slices.Repeat([]impl.Act{act(impl.AcStep, 0, 0)}, mostActs)
		steps[mostActs-1] = act(impl.AcCrash, n-1, 0)
		if got, codes := checkPlay(t, g, steps); got.Up[n-1] || codes[mostActs-1] != 0 {
			t.Fatalf("the last one of 400 acts is not done: %s", toldGroup(got))
		}
		wrong := changedGroup(g, func(g *impl.Group) { g.Up = append(g.Up, true) })
		for _, list := range [][]impl.Act{long, slices.Repeat(steps, 2), slices.Repeat([]impl.Act{{}}, mostActs+1), slices.Repeat(steps, 3000)} {
			for _, g := range []impl.Group{g, wrong, {}} {
				if got, codes := checkPlay(t, g, list); !isZeroGroup(got) || len(codes) > 0 {
					t.Fatalf("Play of %d acts is %s, %v", len(list), toldGroup(got), codes)
				}
			}
		}
		for _, list := range [][]impl.Act{nil, {{}}, steps[:1], steps, long[:mostActs]} {
			for _, g := range []impl.Group{wrong, {}} {
				if got, codes := checkPlay(t, g, list); !isZeroGroup(got) || len(codes) > 0 {
					t.Fatalf("Play at a group that is not right is %s, %v", toldGroup(got), codes)
				}
			}
		}
	}
}

// Where several reasons for it are there at once the code is 1, and nothing at all is done.
func TestSeveralReasonsAtOnce(t *testing.T) {
	g := played(t, ripeGroup(t, 3), act(impl.AcCrash, 1, 0), act(impl.AcDoubt, 0, 1))
	for _, a := range []impl.Act{
		{Kind: 0, A: -1, B: -1}, {Kind: 9, A: 1, B: 1}, {Kind: 8, A: 3, B: 3}, act(impl.AcPush, 1, 1), act(impl.AcPush, 1, 3), act(impl.AcPush, -1, -1), act(impl.AcLand, 3, 3), act(impl.AcLand, 1, 1),
		act(impl.AcDoubt, 1, 1), act(impl.AcDoubt, 0, 0), act(impl.AcDoubt, 5, 5), say(1, strings.Repeat("x", 21)), say(0, strings.Repeat("x", 21)), say(-1, strings.Repeat("x", 21)), act(impl.AcCrash, 3, 3),
	} {
		checkNothing(t, g, a)
	}
}
