package tests

import (
	"fmt"
	"math/rand"
	"slices"
	"testing"

	"loop.example/g00266/impl"
)

const mostOfScript = 120

// checkListens is promise 19: one song, one end, and sound; and whoever is Done is in Ended, rising.
func checkListens(t *testing.T, what string, g impl.Group) {
	t.Helper()
	got := audited(g)
	var done []int64
	for who, m := range g.Members {
		if m.Done {
			done = append(done, int64(who))
		}
	}
	if !got.oneSong || !got.oneEnd || !got.sound || !slices.Equal(got.ended, done) {
		t.Fatalf("%s: of %s this is told: %+v", what, toldGroup(g), got)
	}
}

// checkOneGroup is promise 19 and the first half of 18, once more asked of the document's own words.
func checkOneGroup(t *testing.T, what string, was, now impl.Group) {
	t.Helper()
	checkListens(t, what, now)
	checkAudit(t, what, now)
	checkStaysGroup(t, what, was, now)
}

// A temper is how a script goes: of each Kind how often it comes, and what becomes of Mails.
type temper struct {
	name                       string
	say, push, all, step, land int
	// So many doubts and falls at most, none of them ahead of the act quiet; no Mail lands ahead of the act late.
	doubts, falls, quiet, late int
	// Of the Mails one of the newest pairs goes first, or one of the oldest; some pairs' mostly not at all.
	newest, oldest, deaf bool
}

func tempers() []temper {
	return []temper{
		{name: "no doubts", say: 3, push: 3, all: 1, step: 4, land: 9},
		{name: "one doubt", say: 1, push: 1, all: 5, step: 9, land: 20, doubts: 1, quiet: 30},
		{name: "one doubt, soon", say: 1, push: 1, all: 5, step: 9, land: 20, doubts: 1, quiet: 5},
		{name: "several doubts", say: 1, push: 1, all: 5, step: 9, land: 20, doubts: 3, quiet: 20},
		{name: "many doubts", say: 1, push: 1, all: 5, step: 9, land: 20, doubts: 8, quiet: 10},
		{name: "one falls", say: 1, push: 1, all: 5, step: 9, land: 20, doubts: 1, falls: 1, quiet: 25},
		{name: "some fall", say: 1, push: 1, all: 5, step: 9, land: 20, doubts: 3, falls: 2, quiet: 20},
		{name: "late", say: 2, push: 2, all: 3, step: 6, land: 16, doubts: 2, falls: 1, quiet: 15, late: 50},
		{name: "behind others", say: 1, push: 1, all: 4, step: 9, land: 16, doubts: 2, quiet: 15, newest: true},
		{name: "not at all", say: 1, push: 1, all: 5, step: 9, land: 20, doubts: 2, quiet: 15, deaf: true},
		{name: "one after the other", say: 1, push: 2, all: 3, step: 9, land: 20, doubts: 2, falls: 1, quiet: 15, oldest: true},
	}
}

// script is one of so many acts. It looks at what comes of them, so that what it picks may mostly be done.
func (c temper) script(lot *rand.Rand, n int64, count int) []impl.Act {
	g, _ := impl.NewGroup(n)
	list, troubles := []impl.Act{}, c.troubles(lot, n, count)
	for at := range count {
		a, isTrouble := troubles[at]
		if !isTrouble {
			a = c.act(lot, g, at)
		}
		g, _ = impl.Happen(g, a)
		list = append(list, a)
	}
	return list
}

// troubles are the doubts and falls, by the numbers of their acts; mostly those that fall are doubted, and the first ones of all.
func (c temper) troubles(lot *rand.Rand, n int64, count int) map[int]impl.Act {
	out, falling := map[int]impl.Act{}, []int64{lot.Int63n(n), 0}
	place := func() int { return min(count-1, c.quiet+lot.Intn(max(1, count-c.quiet))) }
	for range c.falls {
		who := falling[lot.Intn(len(falling))]
		out[place()] = act(impl.AcCrash, who, 0)
		falling = append(falling, lot.Int63n(n))
	}
	for range c.doubts {
		who := falling[lot.Intn(len(falling))]
		if lot.Intn(3) == 0 {
			who = lot.Int63n(n)
		}
		out[place()] = act(impl.AcDoubt, lot.Int63n(n), who)
	}
	return out
}

func (c temper) act(lot *rand.Rand, g impl.Group, at int) impl.Act {
	n := int64(len(g.Members))
	a := act(0, lot.Int63n(n), lot.Int63n(n))
	a.Text = fmt.Sprint("t", at)
	kinds := slices.Concat(repeated(impl.AcSay, c.say), repeated(impl.AcPush, c.push), repeated(impl.AcAll, c.all), repeated(impl.AcStep, c.step))
	if at >= c.late {
		kinds = append(kinds, repeated(impl.AcLand, c.land)...)
	}
	a.Kind = kinds[lot.Intn(len(kinds))]
	if a.Kind == impl.AcLand && len(g.Mails) > 0 {
		m := c.mail(lot, g)
		a.A, a.B = m.From, m.To
	}
	return a
}

// mail is the one whose pair lands next.
func (c temper) mail(lot *rand.Rand, g impl.Group) impl.Mail {
	n := int64(len(g.Members))
	at := lot.Intn(len(g.Mails))
	switch {
	case c.newest:
		at = len(g.Mails) - 1 - lot.Intn(min(3, len(g.Mails)))
	case c.oldest:
		at = lot.Intn(min(4, len(g.Mails)))
	case c.deaf:
		for range 9 {
			if m := g.Mails[at]; (m.From+1)%n != m.To || m.From%2 == 0 {
				break
			}
			at = lot.Intn(len(g.Mails))
		}
	}
	return g.Mails[at]
}

// A tally is what came up in many scripts.
type tally map[string]int

func (c tally) take(g impl.Group) {
	ended, sung := impl.Ended(g), 0
	for _, m := range g.Members {
		sung = max(sung, len(m.Sung))
		if ownRow(m).Ready && !m.Done {
			c["Ready, and not Done"]++
		}
	}
	by := []int64{}
	for _, who := range ended {
		by = append(by, ownRow(g.Members[who]).By)
	}
	slices.Sort(by)
	c[fmt.Sprint(len(slices.Compact(by)), " led")]++
	if len(ended) > 0 {
		c["Done"]++
		if trim := ownRow(g.Members[ended[0]]).Trim; len(impl.Song(trim)) > 0 {
			c["Done with a song"]++
		}
		if !slices.Equal(g.Members[ended[0]].Sung, firstNumbers(int64(len(g.Members[ended[0]].Sung)))) {
			c["Done with a gap"]++
		}
	}
	if len(ended) > 1 {
		c["several are Done"]++
	}
	if sung > 0 {
		c["sung"]++
	}
}

// checkScript asks promise 19 of a new group behind each act, and behind Calm; it answers both groups.
func checkScript(t *testing.T, what string, n int64, list []impl.Act) (behind, calm impl.Group) {
	t.Helper()
	if len(list) > mostOfScript {
		t.Fatalf("%s: there are %d acts", what, len(list))
	}
	start := newGroup(t, n)
	behind = start
	for at, a := range list {
		behind, _ = impl.Happen(behind, a)
		checkListens(t, fmt.Sprintf("%s, behind %s, act %d", what, toldAct(a), at), behind)
	}
	checkOneGroup(t, what, start, behind)
	if got, _ := impl.Play(start, list); !alikeGroup(got, behind) {
		t.Fatalf("%s: Play is %s, not %s", what, toldGroup(got), toldGroup(behind))
	}
	calm = impl.Calm(behind)
	checkOneGroup(t, what+", in calm", behind, calm)
	return behind, calm
}

// Promise 19: whoever falls, doubts or waits, behind each act of a script and behind Calm it is one song with one end.
func TestOneSongOneEnd(t *testing.T) {
	lot := rand.New(rand.NewSource(192))
	all := tally{}
	for _, c := range tempers() {
		seen := tally{}
		for n := int64(1); n <= lastRow; n++ {
			for round := range 8 * min(n, 3) {
				g, calm := checkScript(t, c.name, n, c.script(lot, n, mostOfScript-int(round)%3*40))
				if c.doubts == 0 {
					checkSingsAllReady(t, g)
				}
				seen.take(g)
				seen.take(calm)
			}
		}
		if seen["sung"] < 20 || c.doubts > 0 && (seen["Done"] < 15 || seen["several are Done"] < 10) {
			t.Fatalf("%s: only this came up: %v", c.name, seen)
		}
		for what, count := range seen {
			all[what] += count
		}
	}
	if all["Done with a song"] < 60 || all["Done with a gap"] < 30 || all["Ready, and not Done"] < 60 {
		t.Fatalf("only this came up: %v", all)
	}
}

// sends is a push that lands, and a step of the one that heard it.
func sends(from, to int64) []impl.Act {
	return []impl.Act{act(impl.AcPush, from, to), act(impl.AcLand, from, to), act(impl.AcStep, to, 0)}
}

// asks is one time round: the one in front is heard by all these, and hears them.
func asks(first int64, rest ...int64) []impl.Act {
	var out []impl.Act
	for _, who := range rest {
		out = slices.Concat(out, sends(first, who), sends(who, first))
	}
	return out
}

// wedgedBy is how scripts of five begin in which first leaves one out, and the rest has heard it once: so first knows an end, and nobody else does.
// Only the rest knows what the one left out said, and first does not: so the Meet of their Gots is another one than the end of first.
func wedgedBy(first, out int64) (list []impl.Act, rest []int64) {
	rest = slices.DeleteFunc(firstNumbers(lastRow), func(who int64) bool { return who == first || who == out })
	list = append(list, say(first, "all know it"), say(out, "first does not"), say(rest[2], "nobody does"))
	for _, who := range rest {
		list = slices.Concat(list, sends(out, who), sends(first, who))
	}
	list = append(list, act(impl.AcDoubt, first, out))
	return append(list, asks(first, rest...)...), rest
}

// endsBy is how those left end by one that leads, which comes to doubt another one ahead of it.
func endsBy(second, doubted int64, rest []int64) []impl.Act {
	others := slices.DeleteFunc(slices.Clone(rest), func(who int64) bool { return who == second })
	list := []impl.Act{act(impl.AcDoubt, second, doubted)}
	list = slices.Concat(list, asks(second, others...), asks(second, others...))
	return slices.Concat(list, sends(others[0], others[1]), sends(others[1], others[0]))
}

// twoLead is where first ends with the rest, and falls; and the rest ends by second.
func twoLead(first, second, out int64) []impl.Act {
	list, rest := wedgedBy(first, out)
	list = append(list, asks(first, rest...)...)
	list = append(list, act(impl.AcCrash, first, 0))
	return append(list, endsBy(second, first, rest)...)
}

// leadsAlone is where first knows an end, doubts all others, and so is less than half; and the rest ends by second, and never heard of it.
func leadsAlone(first, second, out int64) []impl.Act {
	list, rest := wedgedBy(first, out)
	for _, who := range rest {
		list = append(list, act(impl.AcDoubt, first, who))
	}
	list = append(list, act(impl.AcStep, first, 0))
	return append(list, endsBy(second, first, rest)...)
}

// doubtEachOther is where second doubts first, which goes on with those that do not doubt it yet, and ends without second; and then they come to second.
func doubtEachOther(first, second, out int64) []impl.Act {
	list, rest := wedgedBy(first, out)
	others := slices.DeleteFunc(slices.Clone(rest), func(who int64) bool { return who == second })
	list = append(list, act(impl.AcDoubt, second, first))
	for _, who := range others {
		list = append(list, sends(who, second)...)
	}
	list = append(list, asks(first, others...)...)
	list = append(list, act(impl.AcDoubt, first, second), act(impl.AcStep, first, 0))
	return slices.Concat(list, asks(second, others...), asks(second, others...))
}

// oldRow is a script of three in which 0 is doubted, has an old Row of 1, and knows of nobody that it doubts; 1 sang more than that Row tells.
func oldRow() []impl.Act {
	list := []impl.Act{say(0, "a"), say(0, "d"), say(1, "b"), say(2, "c")}
	for _, pair := range [][2]int64{{0, 1}, {1, 0}, {0, 2}, {1, 2}, {2, 0}, {2, 1}, {0, 1}} {
		list = append(list, sends(pair[0], pair[1])...)
	}
	list = append(list, act(impl.AcDoubt, 2, 0))
	list = append(list, sends(2, 0)...)
	list = append(list, act(impl.AcDoubt, 0, 2), act(impl.AcStep, 0, 0))
	return slices.Concat(list, asks(0, 1), asks(0, 1))
}

// leads are who of five leads first and second, and the one left out.
type leads struct{ first, second, out int64 }

// forLeads plays a script of each of these and asks promise 19; check has the group behind it, all of whom but gone are Done.
func forLeads(t *testing.T, script func(first, second, out int64) []impl.Act, check func(what string, c leads, g impl.Group), gone ...func(c leads) int64) {
	t.Helper()
	for _, c := range []leads{{0, 1, 4}, {0, 1, 3}, {0, 1, 2}, {0, 2, 1}} {
		what := fmt.Sprintf("%+v", c)
		g, calm := checkScript(t, what, lastRow, script(c.first, c.second, c.out))
		want := firstNumbers(lastRow)
		for _, one := range gone {
			want = slices.DeleteFunc(want, func(who int64) bool { return who == one(c) })
		}
		checkTold(t, what, calm, true, true, true, want...)
		check(what, c, g)
	}
}

func isOut(c leads) int64 { return c.out }

func isFirst(c leads) int64 { return c.first }

// The second one that leads takes the end of the first one, though it knows more.
func TestSecondLeaderTakesTheEndOfTheFirst(t *testing.T) {
	forLeads(t, twoLead, func(what string, c leads, g impl.Group) {
		trim := repeated(0, lastRow)
		trim[c.first] = 1
		for who, m := range g.Members {
			own, by := ownRow(m), c.second
			switch int64(who) {
			case c.out:
				continue
			case c.first:
				by = c.first
			default:
				if own.Got[c.out] != 1 {
					t.Fatalf("%s: %d does not know what was said: %s", what, who, toldRow(own))
				}
			}
			if !m.Done || own.By != by || !slices.Equal(own.Trim, trim) || !slices.Equal(m.Sung, []int64{c.first}) {
				t.Fatalf("%s: %d ended by %d with %v, and sang %v", what, who, own.By, own.Trim, m.Sung)
			}
		}
	}, isOut)
}

// Who leads alone is not Done, whatever it knows; the rest ends by its own.
func TestLessThanHalfDoNotEnd(t *testing.T) {
	forLeads(t, leadsAlone, func(what string, c leads, g impl.Group) {
		alone, other := ownRow(g.Members[c.first]), ownRow(g.Members[c.second])
		trim := repeated(0, lastRow)
		trim[c.first], trim[c.out] = 1, 1
		if !alone.Ready || slices.Equal(alone.Trim, trim) || !slices.Equal(other.Trim, trim) || !g.Members[c.second].Done {
			t.Fatalf("%s: %v and %v are the ends", what, alone.Trim, other.Trim)
		}
	}, isOut, isFirst)
}

// Of two that doubt each other the first one ends, since those it asked did not doubt it yet; the second one comes to the same end.
func TestTwoThatDoubtEachOther(t *testing.T) {
	forLeads(t, doubtEachOther, func(what string, c leads, g impl.Group) {
		if a, b := ownRow(g.Members[c.first]), ownRow(g.Members[c.second]); a.By != c.first || b.By != c.second || !slices.Equal(a.Trim, b.Trim) {
			t.Fatalf("%s: they ended by %d and %d with %v and %v", what, a.By, b.By, a.Trim, b.Trim)
		}
	}, isOut)
}

// An end is told of Rows that are Wedged alone: what one sang behind an old Row of it is in the song of all.
func TestOldRowOfOneThatSangOn(t *testing.T) {
	g, _ := checkScript(t, "an old Row", 3, oldRow())
	checkTold(t, "an old Row", g, true, true, true, 0, 1)
	for who := range 2 {
		if song := g.Members[who].Sung; !slices.Equal(song, []int64{0, 1, 2, 3}) {
			t.Fatalf("%d sang %v: %s", who, song, toldGroup(g))
		}
	}
}

// parted is a script in which those of each part hear one another alone, doubt all of the other part, and go round until they end, where they can.
func parted(n int64, parts ...[]int64) []impl.Act {
	var list []impl.Act
	for who := range n {
		list = append(list, say(who, fmt.Sprint("of ", who)), act(impl.AcAll, who, 0))
	}
	for _, part := range parts {
		for who := range n {
			for _, to := range part {
				if who != to {
					list = append(list, act(impl.AcLand, who, to), act(impl.AcStep, to, 0))
				}
			}
		}
	}
	for _, part := range parts {
		for who := range n {
			if !slices.Contains(part, who) {
				list = append(list, act(impl.AcDoubt, part[0], who))
			}
		}
		list = append(list, asks(part[0], part[1:]...)...)
	}
	for _, part := range parts {
		list = append(list, asks(part[0], part[1:]...)...)
	}
	return list
}

// singerFalls is a script in which the one in doubt sang more than the others could yet.
func singerFalls(n, singer int64) []impl.Act {
	var list []impl.Act
	var rest []int64
	for who := range n {
		list = append(list, say(who, fmt.Sprint("of ", who)), act(impl.AcAll, who, 0))
		if who != singer {
			rest = append(rest, who)
		}
	}
	for who := range n {
		for to := range n {
			if who != to {
				list = append(list, act(impl.AcLand, who, to))
			}
		}
	}
	for _, who := range rest {
		list = append(list, act(impl.AcStep, who, 0), act(impl.AcPush, who, singer), act(impl.AcLand, who, singer))
	}
	list = append(list, act(impl.AcStep, singer, 0), act(impl.AcCrash, singer, 0), act(impl.AcDoubt, rest[0], singer))
	return slices.Concat(list, asks(rest[0], rest[1:]...), asks(rest[0], rest[1:]...))
}

// What one sang ahead of its fall the others sing, too.
func TestSingerThatFalls(t *testing.T) {
	for n := int64(3); n <= lastRow; n++ {
		for singer := range n {
			list := singerFalls(n, singer)
			fallen, _ := impl.Play(newGroup(t, n), list[:slices.Index(list, act(impl.AcCrash, singer, 0))])
			for who, m := range fallen.Members {
				if song := int64(len(m.Sung)); int64(who) == singer && song != n || int64(who) != singer && song != 0 {
					t.Fatalf("where %d of %d falls, %d sang %v", singer, n, who, m.Sung)
				}
			}
			_, calm := checkScript(t, "the singer falls", n, list)
			want := slices.DeleteFunc(firstNumbers(n), func(who int64) bool { return who == singer })
			checkTold(t, "the singer fell", calm, true, true, true, want...)
			for who, m := range calm.Members {
				if !slices.Equal(m.Sung, firstNumbers(n)) || !slices.Equal(impl.Voice(m), impl.Voice(calm.Members[singer])) {
					t.Fatalf("where %d of %d fell, %d sang %v", singer, n, who, m.Sung)
				}
			}
		}
	}
}

// Those of two parts that doubt one another: the greater one ends, if it is more than half, and no other one.
func TestPartsThatDoubtOneAnother(t *testing.T) {
	for n := int64(2); n <= lastRow; n++ {
		for _, part := range partsOf(n) {
			rest := slices.DeleteFunc(firstNumbers(n), func(who int64) bool { return slices.Contains(part, who) })
			if len(part) == 0 || len(rest) == 0 {
				continue
			}
			list := parted(n, part, rest)
			what := fmt.Sprint(part, " and ", rest)
			_, calm := checkScript(t, what, n, list)
			var want []int64
			if 2*len(part) > int(n) {
				want = part
			} else if 2*len(rest) > int(n) {
				want = rest
			}
			checkTold(t, what, calm, true, true, true, want...)
		}
	}
}

// perturbed is a script with a few acts left out, exchanged, done twice or put in, so that it is near to the one it was.
func perturbed(lot *rand.Rand, n int64, list []impl.Act) []impl.Act {
	out := slices.Clone(list)
	for range lot.Intn(9) {
		at := lot.Intn(len(out) - 1)
		switch lot.Intn(8) {
		case 0, 1:
			out = slices.Delete(out, at, at+1)
		case 2, 3:
			other := min(len(out)-1, at+1+lot.Intn(6))
			out[at], out[other] = out[other], out[at]
		case 4:
			out = slices.Insert(out, at, out[lot.Intn(len(out))])
		case 5:
			out = slices.Insert(out, at, act(impl.AcDoubt, lot.Int63n(n), lot.Int63n(n)))
		case 6:
			out = slices.Insert(out, at, act(impl.AcCrash, lot.Int63n(n), 0))
		case 7:
			out = slices.Insert(out, at, act(impl.AcAll, lot.Int63n(n), 0))
		}
	}
	return out[:min(len(out), mostOfScript)]
}

// Promise 19 once more, near to where it is hard: two that lead, parts that doubt one another, a singer that falls.
func TestOneSongNearToTheEnd(t *testing.T) {
	lot := rand.New(rand.NewSource(193))
	seen := tally{}
	for _, c := range []struct {
		n    int64
		list []impl.Act
	}{
		{5, twoLead(0, 1, 4)}, {5, twoLead(0, 2, 1)}, {5, leadsAlone(0, 1, 3)}, {5, doubtEachOther(0, 1, 2)}, {3, oldRow()}, {3, singerFalls(3, 0)}, {3, singerFalls(3, 2)}, {4, singerFalls(4, 1)},
		{3, parted(3, []int64{0}, []int64{1, 2})}, {4, parted(4, []int64{0, 2}, []int64{1, 3})}, {5, parted(5, []int64{0, 1}, []int64{2, 3, 4})}, {5, parted(5, []int64{1, 2, 4}, []int64{0, 3})},
	} {
		for range 60 {
			list := perturbed(lot, c.n, c.list)
			g, calm := checkScript(t, "near to the end", c.n, list)
			seen.take(g)
			seen.take(calm)
		}
	}
	if seen["2 led"] < 20 || seen["Done with a song"] < 150 || seen["Ready, and not Done"] < 150 {
		t.Fatalf("only this came up: %v", seen)
	}
}
