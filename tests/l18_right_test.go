package tests

import (
	"fmt"
	"math"
	"math/rand"
	"slices"
	"strings"
	"testing"
	"unsafe"

	"loop.example/g00266/impl"
)

// A wrongGroup is a right Group with one thing wrong.
type wrongGroup struct {
	why   string
	group impl.Group
}

// groupBases are right groups of n of several kinds.
func groupBases(t *testing.T, n int64) []impl.Group {
	t.Helper()
	done := changedGroup(newGroup(t, n), func(g *impl.Group) {
		for id := range g.Members {
			g.Members[id] = endedMember(n, int64(id))
		}
	})
	return []impl.Group{newGroup(t, n), ripeGroup(t, n), done}
}

// wrongByCount are wrong by how many Members, flags or Mails there are.
func wrongByCount(base impl.Group) []wrongGroup {
	var out []wrongGroup
	n := int64(len(base.Members))
	set := func(why string, change func(g *impl.Group)) {
		out = append(out, wrongGroup{why, changedGroup(base, change)})
	}
	set("no Member", func(g *impl.Group) { g.Members, g.Up, g.Mails = nil, nil, nil })
	set("no Member, and the flags", func(g *impl.Group) { g.Members, g.Mails = nil, nil })
	set("a Member too few", func(g *impl.Group) { g.Members, g.Up, g.Mails = g.Members[:n-1], g.Up[:n-1], nil })
	set("a Member too few in front", func(g *impl.Group) { g.Members, g.Up, g.Mails = g.Members[1:], g.Up[1:], nil })
	set("a Member twice at the end", func(g *impl.Group) {
		g.Members, g.Up = append(g.Members, copiedMember(g.Members[n-1])), append(g.Up, true)
	})
	set("a Member twice in front", func(g *impl.Group) {
		g.Members, g.Up = append([]impl.Member{copiedMember(g.Members[0])}, g.Members...), append(g.Up, true)
	})
	set("six Members of N 6", func(g *impl.Group) {
		g.Members, g.Up, g.Mails = nil, slices.Repeat([]bool{true}, 6), nil
		for id := range int64(6) {
			g.Members = append(g.Members, impl.Member{Id: id, N: 6, Rows: gotRows(6, 0)})
		}
	})
	set("six Members, and the last one of N 5", func(g *impl.Group) {
		g.Members, g.Up, g.Mails = nil, slices.Repeat([]bool{true}, 6), nil
		for id := range int64(6) {
			g.Members = append(g.Members, impl.Member{Id: min(id, 4), N: 5, Rows: gotRows(5, 0)})
		}
	})
	set("no flags", func(g *impl.Group) { g.Up = nil })
	set("a flag too few", func(g *impl.Group) { g.Up = g.Up[:n-1] })
	set("a flag too many", func(g *impl.Group) { g.Up = append(g.Up, true) })
	set("a flag too many, which is false", func(g *impl.Group) { g.Up = append(g.Up, false) })
	set("very many flags", func(g *impl.Group) { g.Up = slices.Repeat(g.Up, 1000) })
	if n > 1 {
		for _, count := range []int{mostMails + 1, mostMails + 2, 2 * mostMails, 1<<16 + 1} {
			set(fmt.Sprint(count, " Mails"), func(g *impl.Group) { g.Mails = mailed(*g, count).Mails })
		}
	}
	return out
}

// wrongByMember are wrong by one of the Members, each in turn.
func wrongByMember(t *testing.T, base impl.Group) []wrongGroup {
	t.Helper()
	var out []wrongGroup
	n := int64(len(base.Members))
	for who := range n {
		set := func(why string, m impl.Member) {
			out = append(out, wrongGroup{fmt.Sprint("Member ", who, ": ", why), changedGroup(base, func(g *impl.Group) { g.Members[who] = copiedMember(m) })})
		}
		set("zero", impl.Member{})
		m := base.Members[who]
		all := slices.Concat(wrongNumbersOf(m), wrongRowsOf(m), wrongOwn(m), wrongSung(m))
		// Some of them come in the order of a map.
		slices.SortStableFunc(all, func(a, b wrongMember) int { return strings.Compare(a.why, b.why) })
		for i, c := range all {
			// They are many, and near to one another.
			if i%11 == int(who) {
				set(c.why, c.member)
			}
		}
		for other := range int64(lastRow) {
			if other != who && other < n {
				set(fmt.Sprint("a right one with Id ", other), newMember(t, other, n))
				set(fmt.Sprint("as number ", other), base.Members[other])
			}
			if other+1 != n && who <= other {
				set(fmt.Sprint("a right one with N ", other+1), newMember(t, who, other+1))
			}
		}
	}
	if n > 1 {
		out = append(out, wrongGroup{"the first two exchanged", changedGroup(base, func(g *impl.Group) { g.Members[0], g.Members[1] = g.Members[1], g.Members[0] })})
	}
	return out
}

// wrongByMail are wrong by one Mail: alone, and among others in each place.
func wrongByMail(base impl.Group) []wrongGroup {
	var out []wrongGroup
	n := int64(len(base.Members))
	row := impl.NewRow(n)
	var bad []wrongGroup
	set := func(why string, m impl.Mail) { bad = append(bad, wrongGroup{why, impl.Group{Mails: []impl.Mail{m}}}) }
	for who := range n {
		other := (who + 1) % n
		set(fmt.Sprint("from ", who, " to itself"), impl.Mail{From: who, To: who, Row: row})
		for _, none := range noOnes(n) {
			set(fmt.Sprint("from ", none), impl.Mail{From: none, To: other, Row: row})
			set(fmt.Sprint("to ", none), impl.Mail{From: who, To: none, Row: row})
		}
	}
	set("from -1 to itself", impl.Mail{From: -1, To: -1, Row: row})
	set("from the end to itself", impl.Mail{From: n, To: n, Row: row})
	if n > 1 {
		set("the zero Row", impl.Mail{From: 0, To: 1})
		set("a Row too short", impl.Mail{From: 0, To: 1, Row: impl.NewRow(n - 1)})
		set("a Row too long", impl.Mail{From: 0, To: 1, Row: impl.Row{Got: repeated(0, int(n)+1)}})
		for why, change := range wrongEverywhere(n) {
			set(why, impl.Mail{From: n - 1, To: 0, Row: changed(midRow(n), change)})
		}
		for _, c := range wrongStandings(n) {
			set(c.why, impl.Mail{From: 1, To: 0, Row: c.row})
		}
	}
	slices.SortStableFunc(bad, func(a, b wrongGroup) int { return strings.Compare(a.why, b.why) })
	for i, c := range bad {
		places := []int{0}
		if n > 1 {
			places = []int{0, i % mostMails, mostMails - 1}[i%2:]
		}
		for _, at := range places {
			out = append(out, wrongGroup{fmt.Sprint("Mail ", at, ": ", c.why), changedGroup(base, func(g *impl.Group) {
				if n > 1 && at > 0 {
					g.Mails = mailed(*g, mostMails-1).Mails
				}
				g.Mails = slices.Insert(g.Mails, min(at, len(g.Mails)), copiedMail(c.group.Mails[0]))
			})})
		}
	}
	return out
}

func groupsWrong(t *testing.T) []wrongGroup {
	t.Helper()
	out := []wrongGroup{{"zero", impl.Group{}}, {"a flag alone", impl.Group{Up: []bool{true}}}, {"a Mail alone", impl.Group{Mails: []impl.Mail{{From: 0, To: 1, Row: impl.NewRow(2)}}}}}
	for n := int64(1); n <= lastRow; n++ {
		for _, base := range groupBases(t, n) {
			out = slices.Concat(out, wrongByCount(base), wrongByMember(t, base), wrongByMail(base))
		}
	}
	return out
}

// checkNoGroup asks what a right group could take, and what none can.
func checkNoGroup(t *testing.T, why string, g impl.Group) {
	t.Helper()
	if impl.GroupOk(g) {
		t.Fatalf("%s: GroupOk(%s) is true", why, toldGroup(g))
	}
	for _, a := range []impl.Act{say(0, "x"), act(impl.AcPush, 0, 1), act(impl.AcLand, 1, 0), act(impl.AcStep, 0, 0), act(impl.AcDoubt, 0, 1), act(impl.AcCrash, 0, 0), act(impl.AcAll, 0, 0)} {
		if got, code := impl.Happen(g, a); code != 2 || !isZeroGroup(got) {
			t.Fatalf("%s: Happen %s at %s is %s, %d", why, toldAct(a), toldGroup(g), toldGroup(got), code)
		}
	}
	for _, list := range [][]impl.Act{nil, {act(impl.AcStep, 0, 0)}, {{}}} {
		if got, codes := impl.Play(g, list); !isZeroGroup(got) || len(codes) > 0 {
			t.Fatalf("%s: Play at %s is %s, %v", why, toldGroup(g), toldGroup(got), codes)
		}
	}
	if got := impl.Calm(g); !isZeroGroup(got) {
		t.Fatalf("%s: Calm of %s is %s", why, toldGroup(g), toldGroup(got))
	}
}

// Promise 21: groups that are not right, each for one reason alone.
func TestWrongGroups(t *testing.T) {
	for _, c := range groupsWrong(t) {
		if isRightGroup(c.group) {
			t.Fatalf("%s: it is right: %s", c.why, toldGroup(c.group))
		}
		checkNoGroup(t, c.why, c.group)
	}
}

// The code that is named first: what no group at all can take is 1, where the group is not right, too; and nothing is done to it.
func TestCodeThatIsNamedFirst(t *testing.T) {
	acts := []impl.Act{{}, act(0, 0, 1), act(8, 0, 1), act(-1, 0, 1), act(math.MinInt64, 0, 1), act(math.MaxInt64, 0, 1), act(impl.AcPush, 0, 0), act(impl.AcLand, 1, 1), act(impl.AcDoubt, 0, 0)}
	for kind := int64(1); kind <= 7; kind++ {
		for _, none := range []int64{-1, 5, math.MinInt64, math.MaxInt64} {
			acts = append(acts, act(kind, none, 0))
			if usesB(kind) {
				acts = append(acts, act(kind, 0, none))
			}
		}
	}
	for _, c := range someWrongGroups(t) {
		for _, a := range acts {
			if got, code := impl.Happen(c.group, a); code != 1 || !alikeGroup(got, c.group) {
				t.Fatalf("%s: Happen %s at %s is %s, %d", c.why, toldAct(a), toldGroup(c.group), toldGroup(got), code)
			}
		}
	}
}

// Each thing at its limit is right, and takes all acts; each one that passes it by one is not.
func TestGroupsAtTheLimits(t *testing.T) {
	for n := int64(1); n <= lastRow; n++ {
		full := impl.Group{Up: slices.Repeat([]bool{true}, int(n))}
		for id := range n {
			m := fullMember(n, id)
			for who := range m.Rows {
				m.Rows[who].Ver = most
			}
			full.Members = append(full.Members, m)
		}
		if n > 1 {
			full = mailed(full, mostMails)
			for i := range full.Mails {
				full.Mails[i].Row = fullRow(n)
			}
		}
		bare := changedGroup(full, func(g *impl.Group) { g.Up, g.Mails = slices.Repeat([]bool{false}, int(n)), nil })
		for _, g := range []impl.Group{full, bare} {
			if !checkGroupOk(t, g) {
				t.Fatalf("GroupOk(%s) is false", toldGroup(g))
			}
			for kind := int64(1); kind <= 7; kind++ {
				for a := range n {
					for b := range n {
						checkHappen(t, g, act(kind, a, b))
					}
				}
			}
			checkCalm(t, g)
			checkPlay(t, g, slices.Repeat([]impl.Act{act(impl.AcStep, 0, 0)}, 9))
		}
		for _, change := range []func(g *impl.Group){
			func(g *impl.Group) { g.Mails = append(g.Mails, impl.Mail{From: 0, To: 1 % n, Row: impl.NewRow(n)}) },
			func(g *impl.Group) { g.Members[n-1].Rows[0].Ver++ },
			func(g *impl.Group) { g.Members[0].Rows[n-1].Texts = repeatedText("x", 13) },
			func(g *impl.Group) { g.Members[0].Rows[n-1].Texts[11] += "x" },
			func(g *impl.Group) { g.Members[n-1].Sung = firstNumbers(61) },
		} {
			checkNoGroup(t, "a limit is passed", changedGroup(full, change))
		}
	}
}

// Promise 18: at the last Ver what would need one more is not done, and the group stays right; what needs none is done.
func TestGroupsAtTheLastVer(t *testing.T) {
	for n := int64(2); n <= lastRow; n++ {
		for who := range n {
			g := changedGroup(ripeGroup(t, n), func(g *impl.Group) { g.Members[who].Rows[who].Ver = most })
			other := (who + 1) % n
			checkNothing(t, g, say(who, "x"))
			checkNothing(t, g, act(impl.AcDoubt, who, other))
			checkDone(t, g, act(impl.AcDoubt, other, who))
			heard := checkDone(t, g, act(impl.AcLand, other, who))
			if got := checkDone(t, heard, act(impl.AcStep, who, 0)); !alikeGroup(got, heard) {
				t.Fatalf("a Step at the last Ver is %s", toldGroup(got))
			}
			sent := played(t, changedGroup(g, func(g *impl.Group) { g.Mails = nil }), act(impl.AcPush, who, other), act(impl.AcLand, who, other))
			if sent.Members[other].Rows[who].Ver != most {
				t.Fatalf("the last Ver is not heard: %s", toldGroup(sent))
			}
			checkCalm(t, g)
			checkCalm(t, sent)
		}
	}
}

// nudgedGroup changes one thing, whether that is right or not.
func nudgedGroup(lot *rand.Rand, g impl.Group) impl.Group {
	return changedGroup(g, func(g *impl.Group) {
		by, at := lot.Int63n(3)-1, lot.Intn(len(g.Members))
		mail := lot.Intn(len(g.Mails) + 1)
		switch lot.Intn(7) {
		case 0:
			g.Up = append(g.Up, true)[:int64(len(g.Up))+max(0, by)]
		case 1:
			g.Members = slices.Delete(g.Members, at, at+1)
		case 2:
			g.Members = append(g.Members, copiedMember(g.Members[at]))
		case 3, 4:
			g.Members[at] = nudgedMember(lot, g.Members[at])
		default:
			if mail == len(g.Mails) {
				return
			}
			m := &g.Mails[mail]
			switch lot.Intn(3) {
			case 0:
				m.From += by
			case 1:
				m.To += by
			default:
				m.Row = nudged(lot, m.Row)
			}
		}
	})
}

func TestManyNudgedGroups(t *testing.T) {
	lot := rand.New(rand.NewSource(186))
	right := 0
	for round := range 1500 {
		g := nudgedGroup(lot, drawnGroup(lot, 1+int64(round)%5))
		if checkGroupOk(t, g) {
			right++
		}
		for range 6 {
			checkHappen(t, g, drawnAct(lot, 5))
		}
		checkPlay(t, g, drawnScript(lot, 5, 6))
		if round%5 == 0 {
			checkCalm(t, g)
		}
	}
	if right < 300 || right > 1200 {
		t.Fatalf("%d of 1500 are right", right)
	}
}

// Members' Ids, Ns, and Mails' ends at both ends of what an int64 may be; and very long lists.
func TestVeryLongGroups(t *testing.T) {
	base := ripeGroup(t, 3)
	for _, length := range []int{6, 256 + 3, 1<<16 + 3, 100000} {
		for _, g := range []impl.Group{
			{Members: slices.Repeat(base.Members[:1], length), Up: base.Up},
			{Members: slices.Repeat(base.Members[:1], length), Up: slices.Repeat(base.Up[:1], length)},
			{Members: base.Members, Up: slices.Repeat(base.Up, length)},
			{Members: base.Members, Up: base.Up, Mails: slices.Repeat(base.Mails[:1], mostMails+length)},
		} {
			checkNoGroup(t, "very long", g)
		}
	}
	long := changedGroup(base, func(g *impl.Group) { g.Mails[1].Row.Texts = []string{strings.Repeat("x", 10000000)} })
	checkNoGroup(t, "a very long text", long)
	if got, code := impl.Happen(base, say(0, strings.Repeat("x", 10000000))); code != 1 || !alikeGroup(got, base) {
		t.Fatalf("a very long text is said: %d", code)
	}
}

func emptiedGroup(g impl.Group) impl.Group {
	out := impl.Group{Members: []impl.Member{}, Up: append([]bool{}, g.Up...), Mails: []impl.Mail{}}
	for _, m := range g.Members {
		out.Members = append(out.Members, emptiedMember(m))
	}
	for _, m := range g.Mails {
		m.Row = emptied(m.Row)
		out.Mails = append(out.Mails, m)
	}
	return out
}

func niledGroup(g impl.Group) impl.Group {
	out := impl.Group{Up: append([]bool(nil), g.Up...)}
	for _, m := range g.Members {
		out.Members = append(out.Members, niledMember(m))
	}
	for _, m := range g.Mails {
		m.Row = niled(m.Row)
		out.Mails = append(out.Mails, m)
	}
	return out
}

// someWrongGroups are a few of each kind.
func someWrongGroups(t *testing.T) []wrongGroup {
	t.Helper()
	out := []wrongGroup{{"zero", impl.Group{}}}
	for n := int64(1); n <= 3; n += 2 {
		base := ripeGroup(t, n)
		for _, c := range wrongByCount(base) {
			if len(c.group.Mails) <= 2*mostMails {
				out = append(out, c)
			}
		}
		for i, c := range slices.Concat(wrongByMember(t, base), wrongByMail(base)) {
			if i%19 == int(n) {
				out = append(out, c)
			}
		}
	}
	return out
}

// groupCases are right ones of all kinds, and some that are not.
func groupCases(t *testing.T) []impl.Group {
	t.Helper()
	lot := rand.New(rand.NewSource(187))
	var out []impl.Group
	for n := int64(1); n <= lastRow; n++ {
		out = append(out, groupBases(t, n)...)
		g, _ := impl.Play(newGroup(t, n), drawnScript(lot, n, 120))
		out = append(out, g, drawnGroup(lot, n), drawnGroup(lot, n), nudgedGroup(lot, drawnGroup(lot, n)))
		if n%2 == 0 {
			out = append(out, mailed(ripeGroup(t, n), mostMails-1))
		}
	}
	for i, c := range someWrongGroups(t) {
		if i%4 == 0 {
			out = append(out, c.group)
		}
	}
	return out
}

// Promise 21: an empty list and nil are the same.
func TestEmptyAndNilGroups(t *testing.T) {
	lot := rand.New(rand.NewSource(188))
	for _, g := range groupCases(t) {
		for _, g := range []impl.Group{emptiedGroup(g), niledGroup(g)} {
			checkGroupOk(t, g)
			for kind := int64(0); kind <= 7; kind++ {
				checkHappen(t, g, act(kind, 0, 1))
			}
			checkCalm(t, g)
			checkPlay(t, g, drawnScript(lot, 3, 20))
			checkPlay(t, g, []impl.Act{})
			checkPlay(t, g, nil)
		}
	}
}

// A groupAnswer is all that is answered to one Group.
type groupAnswer struct {
	groups []impl.Group
	codes  [][]int64
}

func groupActs() []impl.Act {
	out := []impl.Act{{}, say(0, "new"), say(0, strings.Repeat("x", 21))}
	for kind := int64(1); kind <= 7; kind++ {
		out = append(out, act(kind, 0, 1), act(kind, 1, 0), act(kind, 4, 2))
	}
	return out
}

// groupAnswers asks each function, with acts that are done and such as are not.
func groupAnswers(g impl.Group, list []impl.Act) groupAnswer {
	var out groupAnswer
	fresh, _ := impl.NewGroup(int64(len(g.Members)))
	out.groups = append(out.groups, fresh, impl.Calm(g))
	for _, a := range list {
		got, code := impl.Happen(g, a)
		out.groups, out.codes = append(out.groups, got), append(out.codes, []int64{code})
	}
	got, codes := impl.Play(g, list)
	out.groups, out.codes = append(out.groups, got), append(out.codes, codes)
	impl.GroupOk(g)
	return out
}

func (a groupAnswer) copied() groupAnswer {
	out := groupAnswer{}
	for _, g := range a.groups {
		out.groups = append(out.groups, copiedGroup(g))
	}
	for _, list := range a.codes {
		out.codes = append(out.codes, slices.Clone(list))
	}
	return out
}

func (a groupAnswer) isAs(b groupAnswer) bool {
	return alikeLists(a.codes, b.codes) && slices.EqualFunc(a.groups, b.groups, alikeGroup)
}

// roomyGroup has marked room behind each list.
func roomyGroup(g impl.Group, text string, mark int64) impl.Group {
	out := impl.Group{Up: roomyWith(g.Up, mark%2 == 0)}
	for _, m := range g.Members {
		out.Members = append(out.Members, roomyMember(m, text, mark))
	}
	for _, m := range g.Mails {
		m.Row = roomyRow(m.Row, text, mark)
		out.Mails = append(out.Mails, m)
	}
	out.Members, out.Mails = roomyWith(out.Members, impl.Member{N: mark}), roomyWith(out.Mails, impl.Mail{From: mark})
	return out
}

// wholeGroup has all that lies in the lists and in the room behind them.
func wholeGroup(g impl.Group) impl.Group {
	out := impl.Group{Up: whole(g.Up)}
	for _, m := range whole(g.Members) {
		out.Members = append(out.Members, wholeMember(m))
	}
	for _, m := range whole(g.Mails) {
		m.Row = wholeRow(m.Row)
		out.Mails = append(out.Mails, m)
	}
	return out
}

// Promise 21: arguments stay, and so does the spare room behind them.
func TestGroupArgumentsStay(t *testing.T) {
	for _, c := range groupCases(t) {
		g, list := roomyGroup(c, "spare", spareMark), roomyWith(groupActs(), impl.Act{Kind: spareMark})
		was, wasList := wholeGroup(g), whole(list)
		first := groupAnswers(g, list).copied()
		if !alikeGroup(wholeGroup(g), was) || !slices.Equal(whole(list), wasList) {
			t.Fatalf("%s became %s, or %v became %v", toldGroup(was), toldGroup(wholeGroup(g)), wasList, whole(list))
		}
		// And what is answered hangs on nothing that lies behind the lists.
		if !groupAnswers(copiedGroup(c), groupActs()).isAs(first) {
			t.Fatalf("with room behind the lists the answers to %s are others", toldGroup(c))
		}
		for _, mark := range []int64{0, 1, int64(len(c.Members))} {
			if !groupAnswers(roomyGroup(c, "", mark), roomyWith(groupActs(), act(impl.AcCrash, 0, 0))).isAs(first) {
				t.Fatalf("with %d behind the lists the answers to %s are others", mark, toldGroup(c))
			}
		}
	}
}

func scribbleGroup(g impl.Group) {
	up := g.Up[:cap(g.Up)]
	for i := range up {
		up[i] = !up[i]
	}
	members := g.Members[:cap(g.Members)]
	for i := range members {
		scribbleMember(members[i])
		members[i] = impl.Member{N: -99}
	}
	mails := g.Mails[:cap(g.Mails)]
	for i := range mails {
		scribbleRow(mails[i].Row)
		mails[i] = impl.Mail{From: -99}
	}
}

// Promise 21: writing over one answer, and the room behind its lists, changes no argument and no other answer.
func TestGroupAnswersAreNewMemory(t *testing.T) {
	for _, c := range groupCases(t) {
		g, list := copiedGroup(c), groupActs()
		earlier := groupAnswers(g, list)
		want := earlier.copied()
		mine := groupAnswers(g, list)
		for _, got := range mine.groups {
			scribbleGroup(got)
		}
		for _, codes := range mine.codes {
			scribble(codes)
		}
		if !alikeGroup(g, c) || !slices.Equal(list, groupActs()) {
			t.Fatalf("an answer shares memory with %s", toldGroup(c))
		}
		if !earlier.isAs(want) || !groupAnswers(g, list).isAs(want) {
			t.Fatalf("an answer to %s shares memory with another one", toldGroup(c))
		}
		// The other way: writing over the arguments changes no answer.
		scribbleGroup(g)
		for i := range list {
			list[i] = impl.Act{Kind: -99}
		}
		if !earlier.isAs(want) {
			t.Fatalf("an argument shares memory with an answer to %s", toldGroup(c))
		}
	}
}

// rowsIn are all Rows of a Group: those of its Members, and those of its Mails.
func rowsIn(g impl.Group) []*impl.Row {
	var out []*impl.Row
	for i := range g.Members {
		for who := range g.Members[i].Rows {
			out = append(out, &g.Members[i].Rows[who])
		}
	}
	for i := range g.Mails {
		out = append(out, &g.Mails[i].Row)
	}
	return out
}

// checkGroupApart writes another number all over each list, room and all: no list has what was written into another one.
func checkGroupApart(t *testing.T, g impl.Group) {
	t.Helper()
	was, rows := copiedGroup(g), rowsIn(g)
	numbers, texts := [][]int64{}, [][]string{}
	for _, m := range g.Members {
		numbers = append(numbers, m.Sung)
	}
	for i, r := range rows {
		// Rows that lie in one memory are one: each has its own number.
		r.Ver = int64(i)
		numbers, texts = append(numbers, r.Got, r.Suspects, r.Trim), append(texts, r.Texts)
	}
	for i, r := range rows {
		if r.Ver != int64(i) {
			t.Fatalf("two lists of Rows in %s share memory", toldGroup(was))
		}
	}
	for i, list := range numbers {
		list = list[:cap(list)]
		for k := range list {
			list[k] = int64(i)
		}
	}
	for i, list := range numbers {
		if slices.ContainsFunc(list[:cap(list)], func(n int64) bool { return n != int64(i) }) {
			t.Fatalf("two lists of numbers in %s share memory", toldGroup(was))
		}
	}
	for i, list := range texts {
		list = list[:cap(list)]
		for k := range list {
			list[k] = fmt.Sprint(i)
		}
	}
	for i, list := range texts {
		if slices.ContainsFunc(list[:cap(list)], func(s string) bool { return s != fmt.Sprint(i) }) {
			t.Fatalf("two lists of Texts in %s share memory", toldGroup(was))
		}
	}
}

// Promise 21: no two lists of one answer share memory: the Row of a Mail and that of the one who sent it, the Mails of one AcAll, the Rows that two have heard.
func TestGroupListsAreApart(t *testing.T) {
	for _, c := range groupCases(t) {
		for _, g := range groupAnswers(c, groupActs()).groups {
			checkGroupApart(t, g)
		}
	}
	lot := rand.New(rand.NewSource(189))
	for n := int64(1); n <= lastRow; n++ {
		for range 20 {
			g, _ := impl.Play(saidGroup(t, repeated(1, int(n))...), drawnScript(lot, n, 200))
			checkGroupApart(t, impl.Calm(g))
			checkGroupApart(t, g)
		}
		// Several acts in one Play: what one sent is heard by all, and sent on.
		list := []impl.Act{}
		for who := range n {
			list = append(list, say(who, "same"), act(impl.AcAll, who, 0), act(impl.AcAll, who, 0))
		}
		for who := range n {
			for other := range n {
				list = append(list, act(impl.AcLand, who, other), act(impl.AcStep, other, 0), act(impl.AcPush, other, who))
			}
		}
		g, codes := impl.Play(newGroup(t, n), list)
		if n > 1 && !slices.Contains(codes, 0) {
			t.Fatalf("nothing of %v was done", list)
		}
		checkGroupApart(t, g)
	}
}

// Lists of one Group may share memory with one another: the answers are as those of lists apart, and the memory stays as it was.
func TestGroupsWhoseListsShareMemory(t *testing.T) {
	for n := int64(2); n <= lastRow; n++ {
		base, texts := append(repeated(1, int(n)), 5, 6, 7), []string{"t", "u"}
		was := slices.Clone(base)
		row := impl.Row{Ver: 3, Texts: texts[:1], Got: base[:n]}
		rows := slices.Repeat([]impl.Row{row}, int(n))
		g := impl.Group{Up: slices.Repeat([]bool{true}, int(n))}
		for id := range n {
			g.Members = append(g.Members, impl.Member{Id: id, N: n, Rows: rows, Sung: base[:0]})
		}
		later := row
		later.Ver = 4
		g.Mails = slices.Repeat([]impl.Mail{{From: 0, To: 1, Row: later}, {From: 1, To: 0, Row: later}}, 9)
		if !checkGroupOk(t, g) {
			t.Fatalf("GroupOk(%s) is false", toldGroup(g))
		}
		got := groupAnswers(g, groupActs())
		if !slices.Equal(base, was) || !slices.Equal(texts, []string{"t", "u"}) {
			t.Fatalf("%v became %v, or the Texts %q", was, base, texts)
		}
		if !got.isAs(groupAnswers(copiedGroup(g), groupActs())) {
			t.Fatalf("of %d the answers are others where lists share memory", n)
		}
		for _, g := range got.groups {
			checkGroupApart(t, g)
		}
	}
}

// textsIn are all texts of these Groups that have a byte.
func textsIn(groups []impl.Group) []string {
	var out []string
	for _, g := range groups {
		for _, r := range rowsIn(g) {
			for _, s := range r.Texts {
				if len(s) > 0 {
					out = append(out, s)
				}
			}
		}
	}
	return out
}

// Promise 21: no text of an answer shares memory with an argument, or with another text.
func TestGroupTextsAreNewMemory(t *testing.T) {
	bytes := []byte("abcdefghijklmnopqrst")
	text := func(at int) string { return written(bytes)[at : at+2] }
	g := newGroup(t, 3)
	for who := range g.Members {
		m := &g.Members[who]
		for other := range m.Rows {
			m.Rows[other] = impl.Row{Ver: 3, Texts: []string{text(2 * other), text(2*other + 1)}, Got: []int64{2, 2, 2}}
		}
		g.Mails = append(g.Mails, impl.Mail{From: int64(who), To: int64(who+1) % 3, Row: impl.Row{Ver: 4, Texts: []string{text(10), text(11), text(11)}, Got: []int64{2, 2, 2}}})
	}
	list := []impl.Act{{}, {Kind: impl.AcSay, A: 0, Text: text(14)}, {Kind: impl.AcSay, A: 1, Text: text(14)}, act(impl.AcAll, 0, 0), act(impl.AcPush, 0, 1), act(impl.AcLand, 0, 1), act(impl.AcStep, 1, 0)}
	wrong := copiedGroup(g)
	wrong.Up = nil
	for _, g := range []impl.Group{g, wrong} {
		if impl.GroupOk(g) != (len(g.Up) > 0) {
			t.Fatalf("GroupOk(%s) is %v", toldGroup(g), impl.GroupOk(g))
		}
		got := groupAnswers(g, list)
		texts := textsIn(got.groups)
		if len(texts) < 27 {
			t.Fatalf("only these are answered: %q", texts)
		}
		for _, s := range texts {
			if sharedBytes(s, written(bytes)) {
				t.Fatalf("%q shares memory with an argument", s)
			}
		}
		// In the order of their memory none begins ahead of where the one before ends.
		slices.SortFunc(texts, func(a, b string) int {
			if uintptr(unsafe.Pointer(unsafe.StringData(a))) < uintptr(unsafe.Pointer(unsafe.StringData(b))) {
				return -1
			}
			return 1
		})
		for i, s := range texts[1:] {
			if sharedBytes(texts[i], s) {
				t.Fatalf("%q and %q share memory", texts[i], s)
			}
		}
	}
	got := groupAnswers(g, list)
	told := fmt.Sprint(got)
	copy(bytes, strings.Repeat("#", len(bytes)))
	if fmt.Sprint(got) != told || strings.Contains(told, "#") {
		t.Fatalf("writing over an argument changed %v", got)
	}
}

// The same call has the same answer, however often it is asked.
func TestGroupAnswersAgain(t *testing.T) {
	for _, g := range groupCases(t) {
		first := groupAnswers(g, groupActs())
		for range 2 {
			if !groupAnswers(g, groupActs()).isAs(first) {
				t.Fatalf("the answers to %s are others", toldGroup(g))
			}
		}
	}
}
