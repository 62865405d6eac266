package tests

import (
	"fmt"
	"math/rand"
	"runtime"
	"slices"
	"strings"
	"testing"
	"time"

	"loop.example/g00266/impl"
)

// An audit is all that is told of one Group.
type audit struct {
	oneSong, oneEnd, sound bool
	ended                  []int64
}

func (a audit) isAs(b audit) bool {
	return a.oneSong == b.oneSong && a.oneEnd == b.oneEnd && a.sound == b.sound && slices.Equal(a.ended, b.ended)
}

func audited(g impl.Group) audit {
	return audit{impl.OneSong(g), impl.OneEnd(g), impl.Sound(g), impl.Ended(g)}
}

// auditOf is what the document asks, word by word.
func auditOf(g impl.Group) audit {
	if !isRightGroup(g) {
		return audit{}
	}
	out := audit{true, true, true, nil}
	for i, m := range g.Members {
		if m.Done {
			out.ended = append(out.ended, int64(i))
		}
		for _, seq := range m.Sung {
			out.sound = out.sound && seq/m.N < int64(len(m.Rows[seq%m.N].Texts))
		}
		for _, other := range g.Members[i+1:] {
			out.oneSong = out.oneSong && isBegun(m.Sung, other.Sung)
			if m.Done && other.Done {
				out.oneEnd = out.oneEnd && slices.Equal(ownRow(m).Trim, ownRow(other).Trim)
			}
			out.sound = out.sound && haveTextsAlike(m, other)
		}
	}
	return out
}

// isBegun is true where one of both lists begins the other.
func isBegun(a, b []int64) bool {
	for i := range min(len(a), len(b)) {
		if a[i] != b[i] {
			return false
		}
	}
	return true
}

// haveTextsAlike asks the seqs alone that both sang and have the Text of.
func haveTextsAlike(a, b impl.Member) bool {
	for _, seq := range a.Sung {
		who, index := seq%a.N, seq/a.N
		if !slices.Contains(b.Sung, seq) || index >= int64(len(a.Rows[who].Texts)) || index >= int64(len(b.Rows[who].Texts)) {
			continue
		}
		if a.Rows[who].Texts[index] != b.Rows[who].Texts[index] {
			return false
		}
	}
	return true
}

func checkAudit(t *testing.T, what string, g impl.Group) audit {
	t.Helper()
	got, want := audited(g), auditOf(g)
	if !got.isAs(want) {
		t.Fatalf("%s: of %s this is told: %+v, not %+v", what, toldGroup(g), got, want)
	}
	return got
}

// checkTold asks for just this.
func checkTold(t *testing.T, what string, g impl.Group, oneSong, oneEnd, sound bool, ended ...int64) {
	t.Helper()
	if got := checkAudit(t, what, g); !got.isAs(audit{oneSong, oneEnd, sound, ended}) {
		t.Fatalf("%s: of %s this is told: %+v", what, toldGroup(g), got)
	}
}

// checkNotTold is for what is no right group.
func checkNotTold(t *testing.T, what string, g impl.Group) {
	t.Helper()
	checkTold(t, what, g, false, false, false)
}

// songsGroup is one of as many as there are songs, all of whom are Done with one Trim, by whom they like; and have 12 Texts of each other one.
func songsGroup(songs ...[]int64) impl.Group {
	n := int64(len(songs))
	g := impl.Group{Up: slices.Repeat([]bool{true}, int(n))}
	for id, song := range songs {
		m := memberWith(int64(id), 0, gotRows(n, mostGot)...)
		m.Rows[id] = readyRow(m.Rows[id], int64(id), repeated(3, int(n))...)
		m.Sung, m.Done = slices.Clone(song), true
		g.Members = append(g.Members, m)
	}
	return g
}

// unended is the group with these not Done any more: what each sang must be from 0 on.
func unended(g impl.Group, those ...int64) impl.Group {
	return changedGroup(g, func(g *impl.Group) {
		for _, who := range those {
			g.Members[who].Done, g.Members[who].Rows[who] = false, unready(g.Members[who].Rows[who])
		}
	})
}

// songsApart are songs of n where all but those at i and at k sang nothing.
func songsApart(n, i, k int, first, second []int64) [][]int64 {
	out := make([][]int64, n)
	out[i], out[k] = first, second
	return out
}

func TestAuditsWrittenOut(t *testing.T) {
	g := saidGroup(t, 1, 1, 0)
	checkTold(t, "said", g, true, true, true)
	g = impl.Calm(g)
	checkTold(t, "sung", g, true, true, true)
	g = checkDone(t, g, act(impl.AcDoubt, 0, 2))
	checkTold(t, "in doubt", g, true, true, true)
	g = impl.Calm(g)
	checkTold(t, "two are left", g, true, true, true, 0, 1)
	for who := range 3 {
		if !slices.Equal(g.Members[who].Sung, []int64{0, 1}) {
			t.Fatalf("%d sang %v", who, g.Members[who].Sung)
		}
	}
	checkTold(t, "two ends", changedGroup(g, func(g *impl.Group) { g.Members[1].Rows[1].Trim[2] = 1 }), true, false, true, 0, 1)
	checkTold(t, "two songs", changedGroup(g, func(g *impl.Group) { g.Members[0].Sung = []int64{1} }), false, true, true, 0, 1)
	checkTold(t, "other words", changedGroup(g, func(g *impl.Group) { g.Members[2].Rows[1].Texts[0] = "other" }), true, true, false, 0, 1)
	checkTold(t, "no words", changedGroup(g, func(g *impl.Group) { g.Members[2].Rows[1].Texts = nil }), true, true, false, 0, 1)
	checkTold(t, "all three", changedGroup(g, func(g *impl.Group) {
		g.Members[1].Rows[1].Trim[2], g.Members[0].Sung, g.Members[2].Rows[1].Texts[0] = 1, []int64{1}, "other"
	}), false, false, false, 0, 1)
	// Nothing that is asked of Sung and of Texts hangs on who is Up.
	checkTold(t, "nobody is Up", changedGroup(g, func(g *impl.Group) { g.Up = []bool{false, false, false} }), true, true, true, 0, 1)
}

func TestAuditsOfNewGroups(t *testing.T) {
	for n := int64(1); n <= lastRow; n++ {
		checkTold(t, "new", newGroup(t, n), true, true, true)
		checkTold(t, "new, and calm", impl.Calm(newGroup(t, n)), true, true, true)
	}
	for _, n := range []int64{-1, 0, 6, 256 + 3, 1 << 32} {
		g, _ := impl.NewGroup(n)
		checkNotTold(t, fmt.Sprint("NewGroup of ", n), g)
	}
}

// Promise 21: groups that are not right, each for one reason alone.
func TestAuditsOfWrongGroups(t *testing.T) {
	for _, c := range groupsWrong(t) {
		checkNotTold(t, c.why, c.group)
	}
	// All of them are Done, with one song and one end: it is the group alone that is not right.
	base := songsGroup([]int64{0, 1}, []int64{0, 1, 2}, nil)
	checkTold(t, "right", base, true, true, true, 0, 1, 2)
	for _, c := range wrongByCount(base) {
		checkNotTold(t, c.why, c.group)
	}
	for _, c := range slices.Concat(wrongByMember(t, base), wrongByMail(base)) {
		checkNotTold(t, c.why, c.group)
	}
}

// Two that sang, in each two places of each group: where neither begins the other, and where one does.
func TestTwoSongs(t *testing.T) {
	long := firstNumbers(20)
	for _, c := range []struct {
		what          string
		first, second []int64
		one           bool
	}{
		{"nothing sung", nil, nil, true},
		{"one of them sang nothing", nil, long, true},
		{"one of them sang 0 alone", []int64{0}, long, true},
		{"half", firstNumbers(10), long, true},
		{"one fewer", firstNumbers(19), long, true},
		{"as many", long, long, true},
		{"one alone each", []int64{7}, []int64{7}, true},
		{"with gaps", []int64{3, 5, 9}, []int64{3, 5, 9, 20}, true},
		{"from another one on, one fewer", countedFrom(9, 4), countedFrom(9, 5), true},
		{"to the end", append(firstNumbers(19), 59), append(firstNumbers(19), 59), true},
		{"the first one differs, one alone each", []int64{0}, []int64{1}, false},
		{"the first one differs", append([]int64{1}, countedFrom(2, 18)...), append([]int64{0}, countedFrom(2, 18)...), false},
		{"the first one is left out", long[1:], long, false},
		{"the second one differs", []int64{0, 1, 3}, []int64{0, 2, 3}, false},
		{"one in the middle differs", []int64{0, 1, 2, 4, 6, 7}, []int64{0, 1, 2, 5, 6, 7}, false},
		{"one in the middle is left out", []int64{0, 1, 2, 4}, []int64{0, 1, 2, 3, 4}, false},
		{"the last one differs", append(firstNumbers(19), 20), long, false},
		{"the last one but one differs", []int64{0, 1, 2, 5}, []int64{0, 1, 3, 5}, false},
		{"the last one of the shorter differs", []int64{0, 1, 3}, long, false},
		{"the last one of all differs", append(firstNumbers(19), 58), append(firstNumbers(19), 59), false},
		{"nothing of both is alike", []int64{0, 2, 4}, []int64{1, 3, 5}, false},
		{"one is the end of the other", long[10:], long, false},
		{"one is among the other", []int64{1, 3, 5}, long, false},
	} {
		for n := 2; n <= int(lastRow); n++ {
			for i := range n {
				for k := range n {
					if i == k {
						continue
					}
					g := songsGroup(songsApart(n, i, k, c.first, c.second)...)
					if got := checkAudit(t, c.what, g); got.oneSong != c.one || !got.oneEnd || len(got.ended) != n {
						t.Fatalf("%s, of %d, by %d and %d: %+v", c.what, n, i, k, got)
					}
				}
			}
		}
	}
}

// All but one sing alike: that one is found in each place.
func TestOneOfManySingsAnother(t *testing.T) {
	for n := 2; n <= int(lastRow); n++ {
		for odd := range n {
			songs := slices.Repeat([][]int64{{0, 1, 2}}, n)
			checkTold(t, "alike", songsGroup(songs...), true, true, true, firstNumbers(int64(n))...)
			for _, song := range [][]int64{{0}, {0, 1}, {0, 1, 2, 4}, nil} {
				songs[odd] = song
				checkTold(t, "a part, or more", songsGroup(songs...), true, true, true, firstNumbers(int64(n))...)
			}
			for _, song := range [][]int64{{1}, {0, 2}, {0, 1, 3}, {0, 2, 3, 4}, {1, 2}} {
				songs[odd] = song
				checkTold(t, "another one", songsGroup(songs...), false, true, true, firstNumbers(int64(n))...)
				// Those that go with both of them, and stand between and around, hide nothing.
				for i := range n {
					if i != odd && i != (odd+1)%n {
						songs[i] = nil
					}
				}
				checkTold(t, "another one, and the rest silent", songsGroup(songs...), false, true, true, firstNumbers(int64(n))...)
				songs = slices.Repeat([][]int64{{0, 1, 2}}, n)
			}
		}
	}
}

// The first and the third part; the second goes with both of them, or with neither.
func TestThreeSongs(t *testing.T) {
	for _, c := range []struct {
		first, second, third []int64
		one                  bool
	}{
		{[]int64{0, 1, 3}, []int64{0, 1}, []int64{0, 1, 4}, false},
		{[]int64{0, 1, 3}, nil, []int64{0, 1, 4}, false},
		{[]int64{0, 1, 3}, []int64{0}, []int64{0, 2}, false},
		{[]int64{0, 1, 3}, []int64{0, 1, 5}, []int64{0, 1, 4}, false},
		{[]int64{0, 1, 3}, []int64{2}, []int64{0, 1, 4}, false},
		{[]int64{0, 1, 3}, []int64{0, 1, 3}, []int64{0, 1, 4}, false},
		{[]int64{0, 1, 3}, []int64{0, 1, 4}, []int64{0, 1, 4}, false},
		{[]int64{0, 1, 3}, []int64{0, 1, 4}, []int64{0, 1, 3}, false},
		{[]int64{0, 1, 3}, []int64{0, 1, 4}, []int64{0, 1, 3, 4}, false},
		{[]int64{0, 1, 3}, []int64{0, 1}, []int64{0, 1, 3, 4}, true},
		{[]int64{0, 1, 3}, []int64{0, 1, 3, 4}, []int64{0, 1}, true},
		{[]int64{0, 1}, []int64{0, 1, 3}, nil, true},
	} {
		songs := [][]int64{c.first, c.second, c.third}
		for _, order := range [][]int{{0, 1, 2}, {0, 2, 1}, {1, 0, 2}, {1, 2, 0}, {2, 0, 1}, {2, 1, 0}} {
			g := songsGroup(songs[order[0]], songs[order[1]], songs[order[2]])
			checkTold(t, "three", g, c.one, true, true, 0, 1, 2)
			checkTold(t, "three of five", songsGroup(songs[order[0]], nil, songs[order[1]], nil, songs[order[2]]), c.one, true, true, 0, 1, 2, 3, 4)
		}
	}
}

// All groups of one, two and three whose songs are of few seqs; of those who sang from 0 on, each part may be not Done.
func TestAllSmallSongs(t *testing.T) {
	for n, seqs := range map[int]int64{1: 5, 2: 4, 3: 3} {
		one := 0
		all := allLists(n, partsOf(seqs)...)
		for i, songs := range all {
			g := songsGroup(songs...)
			if got := checkAudit(t, "songs", g); got.oneSong {
				one++
			}
			var steady []int64
			for who, song := range songs {
				if slices.Equal(song, firstNumbers(int64(len(song)))) && i%(who+2) > 0 {
					steady = append(steady, int64(who))
				}
			}
			checkAudit(t, "songs of some that go on", unended(g, steady...))
		}
		if one == 0 || n > 1 && one == len(all) {
			t.Fatalf("of %d, %d of %d are one song", n, one, len(all))
		}
	}
}

// Who is not Done is asked, too: of Done and not Done ones one song must begin the other.
func TestSongsOfSomeThatGoOn(t *testing.T) {
	for _, c := range []struct {
		goesOn, ended []int64
		one           bool
	}{
		{firstNumbers(3), firstNumbers(3), true}, {firstNumbers(3), firstNumbers(5), true}, {firstNumbers(5), firstNumbers(3), true}, {nil, []int64{4}, true}, {firstNumbers(2), nil, true},
		{firstNumbers(3), []int64{0, 1, 3}, false}, {firstNumbers(1), []int64{1}, false}, {firstNumbers(2), []int64{0, 1, 3, 4}, true}, {firstNumbers(9), []int64{0, 1, 3, 4}, false},
	} {
		checkTold(t, "the first one goes on", unended(songsGroup(c.goesOn, c.ended), 0), c.one, true, true, 1)
		checkTold(t, "the second one goes on", unended(songsGroup(c.ended, c.goesOn), 1), c.one, true, true, 0)
		checkTold(t, "two go on", unended(songsGroup(c.goesOn, c.ended, nil), 0, 2), c.one, true, true, 1)
	}
	// Songs from 0 on alone are one.
	for _, counts := range allLists(3, 0, 1, 2, 9) {
		g := songsGroup(firstNumbers(int64(counts[0])), firstNumbers(int64(counts[1])), firstNumbers(int64(counts[2])))
		checkTold(t, "none is Done", unended(g, 0, 1, 2), true, true, true)
	}
}

// trimmedGroup is one of as many as there are Trims, each of whom is Ready with its own; those of done are Done.
func trimmedGroup(done []int64, trims ...[]int64) impl.Group {
	g := songsGroup(make([][]int64, len(trims))...)
	for who, trim := range trims {
		m := &g.Members[who]
		m.Rows[who].Trim, m.Done = slices.Clone(trim), slices.Contains(done, int64(who))
	}
	return g
}

func TestTrimsOfThoseThatAreDone(t *testing.T) {
	for n := int64(1); n <= lastRow; n++ {
		trim := countedFrom(2, int(n))
		all := slices.Repeat([][]int64{trim}, int(n))
		checkTold(t, "one Trim", trimmedGroup(firstNumbers(n), all...), true, true, true, firstNumbers(n)...)
		for odd := range n {
			for at := range n {
				for _, number := range []int64{0, 1, trim[at] - 1, trim[at] + 1, 12} {
					if number == trim[at] {
						continue
					}
					trims := copied(all)
					trims[odd][at] = number
					for _, done := range partsOf(n) {
						// It counts for nothing unless that one is Done, and another one is.
						one := len(done) < 2 || !slices.Contains(done, odd)
						checkTold(t, fmt.Sprint("the Trim of ", odd, " is ", trims[odd]), trimmedGroup(done, trims...), true, one, true, done...)
					}
				}
			}
		}
	}
	// Two pairs; three of one and two of another one; all apart.
	a, b := []int64{1, 2, 3, 4, 5}, []int64{1, 2, 3, 4, 6}
	checkTold(t, "two pairs", trimmedGroup([]int64{0, 1, 3, 4}, a, a, a, b, b), true, false, true, 0, 1, 3, 4)
	checkTold(t, "the first pair alone", trimmedGroup([]int64{0, 1}, a, a, a, b, b), true, true, true, 0, 1)
	checkTold(t, "the second pair alone", trimmedGroup([]int64{3, 4}, a, a, a, b, b), true, true, true, 3, 4)
	checkTold(t, "the last one", trimmedGroup([]int64{0, 1, 2, 4}, a, a, a, b, b), true, false, true, 0, 1, 2, 4)
	checkTold(t, "in turn", trimmedGroup([]int64{0, 2, 4}, a, b, a, b, a), true, true, true, 0, 2, 4)
	checkTold(t, "in turn, the others", trimmedGroup([]int64{1, 3}, a, b, a, b, a), true, true, true, 1, 3)
	checkTold(t, "in turn, all", trimmedGroup(firstNumbers(5), a, b, a, b, a), true, false, true, 0, 1, 2, 3, 4)
}

// All that are Done, and all Trims, of two and three.
func TestAllSmallTrims(t *testing.T) {
	for n := int64(2); n <= 3; n++ {
		trims := [][]int64{repeated(0, int(n)), append([]int64{1}, repeated(0, int(n)-1)...), append(repeated(0, int(n)-1), 1)}
		for _, some := range allLists(int(n), trims...) {
			for _, done := range partsOf(n) {
				checkAudit(t, "Trims", trimmedGroup(done, some...))
			}
		}
	}
}

// What it has of others is not its Trim; nor does By count, nor who is Up, nor what it sang.
func TestTrimIsThatOfTheOwnRow(t *testing.T) {
	g := trimmedGroup([]int64{0, 1, 2}, []int64{1, 2, 3}, []int64{1, 2, 3}, []int64{1, 2, 3})
	for id := range g.Members {
		for who := range g.Members[id].Rows {
			if id == who {
				continue
			}
			other := changedGroup(g, func(g *impl.Group) {
				g.Members[id].Rows[who] = readyRow(g.Members[id].Rows[who], int64(id), 7, 7, 7)
			})
			checkTold(t, "a Row of another one", other, true, true, true, 0, 1, 2)
		}
		checkTold(t, "another By", changedGroup(g, func(g *impl.Group) { g.Members[id].Rows[id].By = (g.Members[id].Rows[id].By + 1) % 3 }), true, true, true, 0, 1, 2)
		checkTold(t, "not Up", changedGroup(g, func(g *impl.Group) { g.Up[id] = false }), true, true, true, 0, 1, 2)
		checkTold(t, "it doubts the others", changedGroup(g, func(g *impl.Group) {
			g.Members[id].Rows[id].Suspects = slices.DeleteFunc(firstNumbers(3), func(who int64) bool { return who == int64(id) })
		}), true, true, true, 0, 1, 2)
		// Mails of other ends are on their way.
		checkTold(t, "Mails", changedGroup(g, func(g *impl.Group) {
			g.Mails = []impl.Mail{{From: int64(id), To: int64(id+1) % 3, Row: readyRow(gotRow(3, 1), 0, 9, 9, 9)}}
		}), true, true, true, 0, 1, 2)
		other := changedGroup(g, func(g *impl.Group) { g.Members[id].Rows[id].Trim[id]++ })
		checkTold(t, "its own", other, true, false, true, 0, 1, 2)
		checkTold(t, "its own, and what the others have of it", changedGroup(other, func(g *impl.Group) {
			for who := range g.Members {
				g.Members[who].Rows[id] = copiedRow(g.Members[id].Rows[id])
				g.Members[who].Rows[who].Texts, g.Members[who].Rows[who].Got = ownRow(other.Members[who]).Texts, ownRow(other.Members[who]).Got
			}
		}), true, false, true, 0, 1, 2)
	}
}

// Who is Done is told by the flag alone.
func TestEndedRises(t *testing.T) {
	for n := int64(1); n <= lastRow; n++ {
		for _, done := range partsOf(n) {
			trims := slices.Repeat([][]int64{repeated(3, int(n))}, int(n))
			checkTold(t, "Done", trimmedGroup(done, trims...), true, true, true, done...)
		}
	}
}

// lackingGroup is one in which the one of id has count Texts of who, and sang seqs from 0 on; the others sang nothing.
func lackingGroup(n, id, who int64, count, sung int) impl.Group {
	songs := make([][]int64, n)
	songs[id] = firstNumbers(int64(sung))
	return changedGroup(songsGroup(songs...), func(g *impl.Group) {
		r := &g.Members[id].Rows[who]
		r.Texts = r.Texts[:count]
		if who == id {
			r.Got[id] = int64(count)
		}
	})
}

// One sang a seq whose Text it has not, its own and another one's; and the last one that it has just so.
func TestTextThatIsLacking(t *testing.T) {
	for n := int64(1); n <= lastRow; n++ {
		for id := range n {
			for who := range n {
				for _, count := range []int{0, 1, 2, 11} {
					// The first seq that is lacking is that of who with this index.
					lacks := count*int(n) + int(who)
					for sung := max(0, lacks-1); sung <= min(lacks+2, int(n)*mostSaid); sung++ {
						g := lackingGroup(n, id, who, count, sung)
						checkTold(t, fmt.Sprint("of ", n, " ", id, " has ", count, " Texts of ", who), g, true, true, sung <= lacks, firstNumbers(n)...)
						checkTold(t, "it goes on", unended(g, id), true, true, sung <= lacks, slices.DeleteFunc(firstNumbers(n), func(one int64) bool { return one == id })...)
					}
					// What others lack of it counts for nothing: they did not sing it.
					checkTold(t, "none sang", lackingGroup(n, id, who, count, 0), true, true, true, firstNumbers(n)...)
				}
			}
		}
	}
	// One seq alone, with a gap ahead of it.
	for _, seq := range []int64{0, 1, 4, 5, 33, 35} {
		g := songsGroup(nil, []int64{seq}, nil)
		checkTold(t, "it has it", g, true, true, true, 0, 1, 2)
		g.Members[1].Rows[seq%3].Texts = g.Members[1].Rows[seq%3].Texts[:seq/3]
		g.Members[1].Rows[1].Got[1] = int64(len(g.Members[1].Rows[1].Texts))
		checkTold(t, "it has it not", g, true, true, false, 0, 1, 2)
	}
	for _, seq := range []int64{36, 37, 38, 59} {
		checkTold(t, "more than 12 of one", songsGroup(nil, []int64{seq}, nil), true, true, false, 0, 1, 2)
	}
	// Two lack what they sang: what one of them has does not help the other one.
	g := songsGroup(firstNumbers(3), firstNumbers(3))
	for _, those := range partsOf(2) {
		checkTold(t, "Texts of the other one", changedGroup(g, func(g *impl.Group) {
			for _, id := range those {
				g.Members[id].Rows[1-id].Texts = nil
			}
		}), true, true, len(those) == 0, 0, 1)
	}
}

// unlikeGroup is where the one of id has another Text of one seq.
func unlikeGroup(g impl.Group, id, seq int64, text string) impl.Group {
	return changedGroup(g, func(g *impl.Group) {
		n := int64(len(g.Members))
		g.Members[id].Rows[seq%n].Texts[seq/n] = text
	})
}

func TestTextsThatAreUnlike(t *testing.T) {
	for n := int64(2); n <= lastRow; n++ {
		same := songsGroup(slices.Repeat([][]int64{firstNumbers(2*n + 1)}, int(n))...)
		checkTold(t, "alike", same, true, true, true, firstNumbers(n)...)
		for id := range n {
			for _, seq := range []int64{0, 1, n - 1, n, 2*n - 1, 2 * n} {
				text := fmt.Sprintf("%d.%d", seq%n, seq/n)
				for _, other := range []string{"", "y", text + "y", text + "\x00", text[:len(text)-1], text[:len(text)-1] + "y", "y" + text[1:], "\xff" + text} {
					checkTold(t, fmt.Sprintf("%q at seq %d", other, seq), unlikeGroup(same, id, seq, other), true, true, false, firstNumbers(n)...)
				}
				checkTold(t, "the same again", unlikeGroup(same, id, seq, text), true, true, true, firstNumbers(n)...)
			}
			// Of a seq that nobody sang, and of one that one alone sang, each may have what it likes.
			for _, seq := range []int64{2*n + 1, 3 * n, 12*n - 1} {
				checkTold(t, "nobody sang it", unlikeGroup(same, id, seq, "y"), true, true, true, firstNumbers(n)...)
			}
			alone := changedGroup(same, func(g *impl.Group) { g.Members[id].Sung = firstNumbers(2*n + 2) })
			for other := range n {
				checkTold(t, "one alone sang it", unlikeGroup(alone, other, 2*n+1, "y"), true, true, true, firstNumbers(n)...)
			}
			silent := changedGroup(same, func(g *impl.Group) { g.Members[id].Sung = nil })
			for seq := range 2*n + 1 {
				checkTold(t, "one alone did not sing it", unlikeGroup(silent, id, seq, "y"), true, true, true, firstNumbers(n)...)
			}
		}
	}
}

// One seq stands in two songs in different places; only who sang it has what to ask.
func TestTextsInDifferentPlaces(t *testing.T) {
	for _, c := range []struct {
		first, second []int64
		seq           int64
		both          bool
	}{
		{[]int64{0, 1, 2}, []int64{2}, 2, true}, {[]int64{0, 1, 2}, []int64{1, 2}, 1, true}, {[]int64{3}, []int64{0, 1, 2, 3}, 3, true}, {[]int64{0, 4}, []int64{1, 3, 4}, 4, true},
		{[]int64{0, 4, 9}, []int64{4}, 4, true}, {[]int64{1, 2, 3}, []int64{0, 1}, 1, true}, {[]int64{0, 23}, []int64{1, 22, 23}, 23, true},
		{[]int64{0, 1, 2}, []int64{3}, 2, false}, {[]int64{0, 1, 2}, []int64{1, 3}, 2, false}, {[]int64{0, 2}, []int64{1, 3}, 0, false}, {[]int64{0, 4}, []int64{1, 3}, 4, false}, {[]int64{5}, []int64{4, 6}, 5, false},
		// The same place, and another seq in it, whose Text is another one.
		{[]int64{0}, []int64{2}, 0, false}, {[]int64{1, 3}, []int64{1, 5}, 3, false}, {[]int64{1, 3}, []int64{1, 5}, 1, true},
	} {
		one := isBegun(c.first, c.second)
		for _, songs := range [][][]int64{{c.first, c.second}, {c.second, c.first}} {
			g := songsGroup(songs...)
			checkTold(t, "alike", g, one, true, true, 0, 1)
			for id := range int64(2) {
				checkTold(t, "unlike", unlikeGroup(g, id, c.seq, "y"), one, true, !c.both, 0, 1)
			}
		}
	}
	// Of three, two of whom sang it: in each two places, whatever the third one has.
	for silent := range int64(3) {
		songs := [][]int64{{0, 1, 2, 3}, {1, 3}, {3}}
		songs[silent] = nil
		g := songsGroup(songs...)
		for id := range int64(3) {
			checkTold(t, "unlike at one", unlikeGroup(g, id, 3, "y"), isBegun(songs[(silent+1)%3], songs[(silent+2)%3]), true, id == silent, 0, 1, 2)
		}
	}
}

// A Text of no byte is a Text: whoever has it has it, and it is unlike any other one.
func TestTextOfNoByte(t *testing.T) {
	for _, texts := range allLists(3, "", "x", "y") {
		for _, seq := range []int64{0, 1, 2, 5} {
			g := songsGroup(firstNumbers(6), firstNumbers(6), firstNumbers(6))
			for id, text := range texts {
				g = unlikeGroup(g, int64(id), seq, text)
			}
			checkTold(t, fmt.Sprintf("%q at seq %d", texts, seq), g, true, true, texts[0] == texts[1] && texts[1] == texts[2], 0, 1, 2)
			g.Members[1].Sung = firstNumbers(seq)
			checkTold(t, fmt.Sprintf("%q at seq %d, which one did not sing", texts, seq), g, true, true, texts[0] == texts[2], 0, 1, 2)
		}
	}
	g := songsGroup(firstNumbers(4), firstNumbers(4))
	for id := range g.Members {
		for who := range g.Members[id].Rows {
			g.Members[id].Rows[who].Texts = repeatedText("", mostSaid)
		}
	}
	checkTold(t, "no byte at all", g, true, true, true, 0, 1)
	g.Members[1].Rows[0].Texts = repeatedText("", 1)
	checkTold(t, "no byte, and no Text", g, true, true, false, 0, 1)
	g.Members[1].Rows[0].Texts = repeatedText("", 2)
	checkTold(t, "no byte, and the last Text", g, true, true, true, 0, 1)
}

// fullGroup is at each upper limit: each sang all that there are Texts of, at most 60.
func fullGroup(n int64) impl.Group {
	g := impl.Group{Up: slices.Repeat([]bool{true}, int(n))}
	for id := range n {
		m := fullMember(n, id)
		for who := range m.Rows {
			m.Rows[who].Ver = most
		}
		m.Sung = firstNumbers(n * mostSaid)
		g.Members = append(g.Members, m)
	}
	if n > 1 {
		g = mailed(g, mostMails)
	}
	return g
}

func TestAuditsAtTheLimits(t *testing.T) {
	for n := int64(1); n <= lastRow; n++ {
		g := fullGroup(n)
		checkTold(t, "full", g, true, true, true)
		ended := changedGroup(g, func(g *impl.Group) {
			for id := range g.Members {
				g.Members[id].Rows[id], g.Members[id].Done = readyRow(g.Members[id].Rows[id], n-1, repeated(mostGot, int(n))...), true
			}
		})
		checkTold(t, "full, and Done", ended, true, true, true, firstNumbers(n)...)
		last := n*mostSaid - 1
		for id := range n {
			if n > 1 {
				checkTold(t, "the last byte of the last Text", unlikeGroup(g, id, last, strings.Repeat("x", longestSaid-1)+"y"), true, true, false)
				checkTold(t, "the last Text is a byte shorter", unlikeGroup(g, id, last, strings.Repeat("x", longestSaid-1)), true, true, false)
				checkTold(t, "the last number of the last Trim", changedGroup(ended, func(g *impl.Group) { g.Members[id].Rows[id].Trim[n-1]-- }), true, false, true, firstNumbers(n)...)
				checkTold(t, "the last one of the song", changedGroup(ended, func(g *impl.Group) { g.Members[id].Sung[last-1], g.Members[id].Sung = last, g.Members[id].Sung[:last] }), false, true, true, firstNumbers(n)...)
			}
			checkTold(t, "the last one is not sung", changedGroup(g, func(g *impl.Group) { g.Members[id].Sung = firstNumbers(last) }), true, true, true)
			if n < lastRow {
				checkTold(t, "one more than 12 of each", changedGroup(g, func(g *impl.Group) { g.Members[id].Sung = firstNumbers(last + 2) }), true, true, false)
				checkTold(t, "60", changedGroup(g, func(g *impl.Group) { g.Members[id].Sung = firstNumbers(mostSung) }), true, true, false)
			}
			checkNotTold(t, "61", changedGroup(g, func(g *impl.Group) { g.Members[id].Sung = firstNumbers(mostSung + 1) }))
			checkNotTold(t, "13 Texts", changedGroup(g, func(g *impl.Group) { g.Members[id].Rows[0].Texts = repeatedText("x", mostSaid+1) }))
			checkNotTold(t, "a Text of 21 bytes", changedGroup(g, func(g *impl.Group) { g.Members[id].Rows[n-1].Texts[11] += "x" }))
		}
		if n > 1 {
			checkNotTold(t, "201 Mails", mailed(g, mostMails+1))
		}
	}
	checkNotTold(t, "six", changedGroup(fullGroup(5), func(g *impl.Group) { g.Members, g.Up = append(g.Members, g.Members[4]), append(g.Up, true) }))
}

// Right groups of any kind, and such as one thing was changed in.
func TestAuditsOfManyDrawn(t *testing.T) {
	lot := rand.New(rand.NewSource(190))
	seen := map[string]int{}
	for round := range 3000 {
		g := drawnGroup(lot, 1+int64(round)%5)
		if round%2 == 0 {
			g = oneSongMostly(lot, g)
		}
		if round%3 == 0 {
			g = nudgedGroup(lot, g)
		}
		got := checkAudit(t, "drawn", g)
		if len(g.Members) > 1 && impl.GroupOk(g) {
			seen[fmt.Sprint("one song ", got.oneSong)]++
			seen[fmt.Sprint("one end ", got.oneEnd)]++
			seen[fmt.Sprint("sound ", got.sound)]++
			seen[fmt.Sprint("Done ", len(got.ended))]++
		}
	}
	for _, what := range []string{"one song true", "one song false", "one end true", "one end false", "sound true", "sound false", "Done 0", "Done 1", "Done 2", "Done 3", "Done 4"} {
		if seen[what] < 30 {
			t.Fatalf("%s came up %d times: %v", what, seen[what], seen)
		}
	}
}

// oneSongMostly gives all of a group the same Texts, one song and one end, and some of them others.
func oneSongMostly(lot *rand.Rand, g impl.Group) impl.Group {
	return changedGroup(g, func(g *impl.Group) {
		n := int64(len(g.Members))
		for id := range g.Members {
			m := &g.Members[id]
			for who := range m.Rows {
				m.Rows[who].Texts = saidRow(int64(who), 4).Texts
			}
			own := &m.Rows[id]
			own.Got[id] = 4
			if lot.Intn(2) == 0 {
				*own, m.Done = readyRow(*own, 0, repeated(2, int(n))...), true
				own.Trim[lot.Int63n(n)] += lot.Int63n(8) / 7
			}
			m.Sung = firstNumbers(lot.Int63n(4*n + 1))
			if lot.Intn(6) == 0 {
				m.Rows[lot.Int63n(n)].Texts[lot.Intn(4)] = "other"
				own.Got[id] = int64(len(own.Texts))
			}
			if m.Done && lot.Intn(6) == 0 && len(m.Sung) > 0 {
				at := lot.Intn(len(m.Sung))
				m.Sung = slices.Delete(m.Sung, at, at+1)
			}
		}
	})
}

// auditCases are right ones of all kinds, some that are not, and such as are no one song, have no one end or are not sound.
func auditCases(t *testing.T) []impl.Group {
	t.Helper()
	a, b := []int64{1, 2, 3}, []int64{1, 2, 4}
	out := append(groupCases(t), songsGroup([]int64{0, 2}, []int64{0}, []int64{0, 1}), songsGroup([]int64{0, 2}, []int64{0}, []int64{0, 2}), songsGroup(firstNumbers(48), nil, firstNumbers(20), []int64{3}),
		trimmedGroup([]int64{0, 2}, a, b, a), trimmedGroup([]int64{0, 1, 2}, a, a, b), trimmedGroup([]int64{1}, a, a, b),
		lackingGroup(3, 1, 2, 4, 15), lackingGroup(3, 1, 2, 4, 14), unlikeGroup(songsGroup(firstNumbers(8), firstNumbers(9)), 1, 7, "y"), unlikeGroup(songsGroup(firstNumbers(8), firstNumbers(9)), 1, 8, "y"))
	for n := int64(1); n <= lastRow; n++ {
		out = append(out, fullGroup(n))
	}
	return out
}

// Promise 21: an empty list and nil are the same.
func TestEmptyAndNilAudits(t *testing.T) {
	for _, g := range auditCases(t) {
		want := audited(g)
		for _, g := range []impl.Group{emptiedGroup(g), niledGroup(g)} {
			if got := checkAudit(t, "empty and nil", g); !got.isAs(want) {
				t.Fatalf("of %s this is told: %+v, not %+v", toldGroup(g), got, want)
			}
		}
	}
	for _, g := range []impl.Group{{}, {Members: []impl.Member{}, Up: []bool{}, Mails: []impl.Mail{}}, {Members: []impl.Member{}}, {Up: []bool{}}, {Mails: []impl.Mail{}}} {
		checkNotTold(t, "no Members", g)
	}
}

// Promise 21: arguments stay, and so does the spare room behind them.
func TestAuditArgumentsStay(t *testing.T) {
	for _, c := range auditCases(t) {
		want := audited(c)
		for _, mark := range []int64{spareMark, 0, 1, int64(len(c.Members))} {
			g := roomyGroup(c, "spare", mark)
			was := wholeGroup(g)
			got := audited(g)
			if !alikeGroup(wholeGroup(g), was) {
				t.Fatalf("%s became %s", toldGroup(was), toldGroup(wholeGroup(g)))
			}
			if !got.isAs(want) {
				t.Fatalf("with %d behind the lists of %s this is told: %+v, not %+v", mark, toldGroup(c), got, want)
			}
		}
	}
}

// Promise 21: what Ended answers is new memory.
func TestEndedIsNewMemory(t *testing.T) {
	for _, c := range auditCases(t) {
		g := copiedGroup(c)
		want := slices.Clone(impl.Ended(g))
		first, second := impl.Ended(g), impl.Ended(g)
		scribble(first)
		if !alikeGroup(g, c) || !slices.Equal(second, want) || !audited(g).isAs(auditOf(c)) {
			t.Fatalf("what Ended answers shares memory: %s", toldGroup(c))
		}
		scribbleGroup(g)
		if !slices.Equal(second, want) {
			t.Fatalf("an argument shares memory with what Ended answers of %s", toldGroup(c))
		}
	}
}

// Lists of one Group may share memory with one another.
func TestAuditsOfGroupsWhoseListsShareMemory(t *testing.T) {
	for n := int64(1); n <= lastRow; n++ {
		base := append(repeated(1, int(n)), 0, 1, 2, 3)
		was := slices.Clone(base)
		texts := []string{"t"}
		rows := slices.Repeat([]impl.Row{{Ver: 3, Texts: texts, Got: base[:n], Wedged: true, Ready: true, Trim: base[:n]}}, int(n))
		g := impl.Group{Up: slices.Repeat([]bool{true}, int(n))}
		for id := range n {
			g.Members = append(g.Members, impl.Member{Id: id, N: n, Rows: rows, Sung: base[n : n+min(n, 4)], Done: true})
		}
		checkTold(t, "shared", g, true, true, true, firstNumbers(n)...)
		if !slices.Equal(base, was) || texts[0] != "t" {
			t.Fatalf("%v became %v, or the Text %q", was, base, texts)
		}
		g.Members[n-1].Sung = base[n : n+min(n, 4)-1]
		checkTold(t, "shared, and one fewer", g, true, true, true, firstNumbers(n)...)
	}
}

// The same group has the same answers, however often, and behind whatever else, it is asked.
func TestAuditsAgain(t *testing.T) {
	all := auditCases(t)
	var first []audit
	for _, g := range all {
		first = append(first, audited(g))
	}
	lot := rand.New(rand.NewSource(191))
	for range 4 {
		for _, i := range lot.Perm(len(all)) {
			if got := audited(all[i]); !got.isAs(first[i]) {
				t.Fatalf("of %s this is told: %+v, and first it was %+v", toldGroup(all[i]), got, first[i])
			}
		}
	}
	// Whoever tells first: of these one pair alone parts, and all the others go together.
	for odd := range 5 {
		songs := slices.Repeat([][]int64{nil}, 5)
		songs[odd], songs[(odd+2)%5] = firstNumbers(50), append(firstNumbers(49), 50)
		two := songsGroup(songs...)
		songs[odd] = firstNumbers(49)
		one := songsGroup(songs...)
		for range 300 {
			if impl.OneSong(two) || !impl.OneSong(one) {
				t.Fatalf("the answers to %v are others", songs)
			}
		}
	}
}

// Who is asked by OneSong has ended when it answers: what is written into the Group then is nobody's business, and nobody is left waiting.
func TestNobodyIsLeftAsking(t *testing.T) {
	before := runtime.NumGoroutine()
	for round := range 400 {
		g := songsGroup([]int64{0, 2}, []int64{0, 1}, nil, []int64{4}, firstNumbers(30))
		if round%2 == 0 {
			g = fullGroup(5)
		}
		if impl.OneSong(g) != (round%2 == 0) {
			t.Fatalf("OneSong(%s) is %v", toldGroup(g), round%2 != 0)
		}
		scribbleGroup(g)
	}
	checkNobodyLeft(t, before)
}

// checkNobodyLeft waits a while, since a goroutine that has done all its work may still be counted.
func checkNobodyLeft(t *testing.T, before int) {
	t.Helper()
	for range 500 {
		if runtime.NumGoroutine() <= before {
			return
		}
		time.Sleep(10 * time.Millisecond)
	}
	t.Fatalf("there were %d goroutines, and now there are %d", before, runtime.NumGoroutine())
}

// Very long lists are refused by their length.
func TestAuditsOfVeryLongGroups(t *testing.T) {
	base := songsGroup(firstNumbers(3), firstNumbers(3), firstNumbers(3))
	for _, length := range []int{6, 256 + 3, 1<<16 + 3, 100000} {
		checkNotTold(t, "Members", impl.Group{Members: slices.Repeat(base.Members[:1], length), Up: slices.Repeat(base.Up[:1], length)})
		checkNotTold(t, "flags", impl.Group{Members: base.Members, Up: slices.Repeat(base.Up[:1], length)})
		checkNotTold(t, "Mails", impl.Group{Members: base.Members, Up: base.Up, Mails: slices.Repeat([]impl.Mail{{From: 0, To: 1, Row: impl.NewRow(3)}}, mostMails+length)})
		checkNotTold(t, "Sung", changedGroup(base, func(g *impl.Group) { g.Members[1].Sung = repeated(0, length) }))
		checkNotTold(t, "Sung from 0 on", changedGroup(base, func(g *impl.Group) { g.Members[2].Sung = firstNumbers(int64(mostSung + length)) }))
		checkNotTold(t, "Texts", changedGroup(base, func(g *impl.Group) { g.Members[0].Rows[1].Texts = repeatedText("x", mostSaid+length) }))
	}
}
