package tests

import (
	"fmt"
	"math"
	"math/rand"
	"slices"
	"strings"
	"testing"

	"loop.example/g00266/impl"
)

const mostSung = 60

func alikeMember(a, b impl.Member) bool {
	return a.Id == b.Id && a.N == b.N && a.Done == b.Done && slices.Equal(a.Sung, b.Sung) && slices.EqualFunc(a.Rows, b.Rows, alikeRow)
}

func isZeroMember(m impl.Member) bool { return alikeMember(m, impl.Member{}) }

func copiedMember(m impl.Member) impl.Member {
	rows := []impl.Row{}
	for _, r := range m.Rows {
		rows = append(rows, copiedRow(r))
	}
	m.Rows, m.Sung = rows, slices.Clone(m.Sung)
	return m
}

func toldMember(m impl.Member) string {
	s := fmt.Sprintf("%+v", m)
	return fmt.Sprintf("%q", s[:min(len(s), 1500)])
}

// changedMember is a copy with the change, in memory of its own.
func changedMember(m impl.Member, change func(m *impl.Member)) impl.Member {
	out := copiedMember(m)
	change(&out)
	return out
}

// changedOwn is a copy with a change of its own Row.
func changedOwn(m impl.Member, change func(own *impl.Row)) impl.Member {
	return changedMember(m, func(m *impl.Member) { change(&m.Rows[m.Id]) })
}

func ownRow(m impl.Member) impl.Row { return m.Rows[m.Id] }

// isRightMember is what the document asks of a Member, word by word.
func isRightMember(m impl.Member) bool {
	if m.N < 1 || m.N > 5 || m.Id < 0 || m.Id >= m.N || int64(len(m.Rows)) != m.N {
		return false
	}
	for _, r := range m.Rows {
		if !isRow(r, m.N) {
			return false
		}
	}
	own := ownRow(m)
	if own.Got[m.Id] != int64(len(own.Texts)) || slices.Contains(own.Suspects, m.Id) || len(m.Sung) > 60 {
		return false
	}
	for i, seq := range m.Sung {
		if seq < 0 || seq >= 60 || i > 0 && seq <= m.Sung[i-1] || !m.Done && seq != int64(i) {
			return false
		}
	}
	return !m.Done || own.Ready
}

// leftTo are those left: all but its own Suspects.
func leftTo(m impl.Member) []int64 {
	return slices.DeleteFunc(firstNumbers(m.N), func(who int64) bool { return slices.Contains(ownRow(m).Suspects, who) })
}

func isAnotherLeft(m impl.Member, who int64) bool {
	return who != m.Id && slices.Contains(leftTo(m), who)
}

func areMoreThanHalf(m impl.Member, list []int64) bool { return len(list) > int(m.N)-len(list) }

// sayOf is what the document asks of Say; the Ver that would be beyond MaxCount is refused as any limit that is passed.
func sayOf(m impl.Member, text string) (impl.Member, bool) {
	if !isRightMember(m) {
		return impl.Member{}, false
	}
	own := ownRow(m)
	if own.Wedged || m.Done || len(own.Texts) == 12 || len(text) > 20 || own.Ver == 1000000 {
		return copiedMember(m), false
	}
	return changedOwn(m, func(own *impl.Row) {
		own.Texts = append(own.Texts, text)
		own.Got[m.Id]++
		own.Ver++
	}), true
}

func doubtOf(m impl.Member, who int64) (impl.Member, bool) {
	if !isRightMember(m) {
		return impl.Member{}, false
	}
	own := ownRow(m)
	if who < 0 || who >= m.N || who == m.Id || slices.Contains(own.Suspects, who) || m.Done || own.Ver == 1000000 {
		return copiedMember(m), false
	}
	return changedOwn(m, func(own *impl.Row) {
		own.Suspects = slices.Sorted(slices.Values(append(own.Suspects, who)))
		own.Wedged = true
		own.Ver++
	}), true
}

func heardOf(m impl.Member, from int64, row impl.Row) (impl.Member, bool) {
	if !isRightMember(m) {
		return impl.Member{}, false
	}
	if !isRow(row, m.N) || !isAnotherLeft(m, from) || row.Ver <= m.Rows[from].Ver || m.Done {
		return copiedMember(m), false
	}
	return changedMember(m, func(m *impl.Member) { m.Rows[from] = copiedRow(row) }), true
}

// stepOf takes the five parts one behind the other, each as the document has it.
func stepOf(m impl.Member) impl.Member {
	if !isRightMember(m) {
		return impl.Member{}
	}
	out := copiedMember(m)
	if m.Done {
		return out
	}
	for _, part := range []func(m *impl.Member){firstPart, secondPart, thirdPart, fourthPart, fifthPart} {
		part(&out)
	}
	if alikeRow(ownRow(out), ownRow(m)) {
		return out
	}
	out.Rows[m.Id].Ver++
	if out.Rows[m.Id].Ver > 1000000 {
		return copiedMember(m)
	}
	return out
}

// firstPart takes the Suspects of all that are left at its beginning.
func firstPart(m *impl.Member) {
	own := &m.Rows[m.Id]
	all := slices.Clone(own.Suspects)
	for who, r := range m.Rows {
		if !isAnotherLeft(*m, int64(who)) {
			continue
		}
		if r.Wedged || len(r.Suspects) > 0 {
			own.Wedged = true
		}
		for _, one := range r.Suspects {
			if one != m.Id {
				all = append(all, one)
			}
		}
	}
	own.Suspects = slices.Compact(slices.Sorted(slices.Values(all)))
}

// secondPart keeps a count that is greater than the Texts are: promise 17 asks it.
func secondPart(m *impl.Member) {
	own := &m.Rows[m.Id]
	for who, r := range m.Rows {
		if count := int64(len(r.Texts)); !own.Wedged && int64(who) != m.Id && own.Got[who] < count {
			own.Got[who] = count
		}
	}
}

func thirdPart(m *impl.Member) {
	for !ownRow(*m).Wedged {
		seq := int64(len(m.Sung))
		for _, r := range m.Rows {
			if r.Got[seq%m.N] <= seq/m.N {
				return
			}
		}
		m.Sung = append(m.Sung, seq)
	}
}

func fourthPart(m *impl.Member) {
	own := &m.Rows[m.Id]
	left := leftTo(*m)
	if !own.Wedged {
		return
	}
	if left[0] != m.Id {
		lead := m.Rows[left[0]]
		if lead.Ready && lead.By == left[0] && !slices.Contains(lead.Suspects, m.Id) && (!own.Ready || own.By < lead.By) {
			own.Ready, own.By, own.Trim = true, lead.By, slices.Clone(lead.Trim)
		}
		return
	}
	if !areMoreThanHalf(*m, left) || own.Ready && own.By >= m.Id {
		return
	}
	by, trim, met := int64(-1), []int64{}, repeated(mostGot, int(m.N))
	for _, who := range left {
		r := m.Rows[who]
		if !r.Wedged || slices.ContainsFunc(own.Suspects, func(one int64) bool { return !slices.Contains(r.Suspects, one) }) {
			return
		}
		if r.Ready && r.By > by {
			by, trim = r.By, slices.Clone(r.Trim)
		}
		for k, count := range r.Got {
			met[k] = min(met[k], count)
		}
	}
	if by < 0 {
		trim = met
	}
	own.Ready, own.By, own.Trim = true, m.Id, trim
}

func fifthPart(m *impl.Member) {
	own := ownRow(*m)
	left := leftTo(*m)
	if !own.Ready || !areMoreThanHalf(*m, left) {
		return
	}
	for _, who := range left {
		r := m.Rows[who]
		if !r.Ready || r.By != own.By || !slices.Equal(r.Trim, own.Trim) || slices.Contains(r.Suspects, m.Id) {
			return
		}
	}
	m.Done = true
	for seq := range int64(mostSung) {
		if seq/m.N < own.Trim[seq%m.N] && !slices.Contains(m.Sung, seq) {
			m.Sung = append(m.Sung, seq)
		}
	}
}

func voiceOf(m impl.Member) []string {
	if !isRightMember(m) {
		return nil
	}
	var out []string
	for _, seq := range m.Sung {
		texts := m.Rows[seq%m.N].Texts
		if seq/m.N >= int64(len(texts)) {
			return nil
		}
		out = append(out, texts[seq/m.N])
	}
	return out
}

func checkMemberOk(t *testing.T, m impl.Member) bool {
	t.Helper()
	got := impl.MemberOk(m)
	if got != isRightMember(m) {
		t.Fatalf("MemberOk(%s) is %v", toldMember(m), got)
	}
	return got
}

// Promise 17: a right Member stays right, its Row Follows what it was, and what it sang it sang.
func checkStaysMember(t *testing.T, what string, was, now impl.Member) {
	t.Helper()
	if !impl.MemberOk(was) {
		return
	}
	if !impl.MemberOk(now) || !isRightMember(now) || now.Id != was.Id || now.N != was.N {
		t.Fatalf("%s of %s is no right Member: %s", what, toldMember(was), toldMember(now))
	}
	if !impl.Follows(ownRow(was), ownRow(now), was.N) || !isFollowed(ownRow(was), ownRow(now), was.N) {
		t.Fatalf("%s: %s does not Follow %s", what, toldRow(ownRow(now)), toldRow(ownRow(was)))
	}
	if len(now.Sung) < len(was.Sung) || !slices.Equal(now.Sung[:len(was.Sung)], was.Sung) || was.Done && !now.Done {
		t.Fatalf("%s: it sang %v, and now %v", what, was.Sung, now.Sung)
	}
}

func checkMade(t *testing.T, what string, was, got, want impl.Member, ok, wantOk bool) (impl.Member, bool) {
	t.Helper()
	if ok != wantOk || !alikeMember(got, want) {
		t.Fatalf("%s of %s is\n%s, %v, not\n%s, %v", what, toldMember(was), toldMember(got), ok, toldMember(want), wantOk)
	}
	if !ok && !alikeMember(got, was) && impl.MemberOk(was) {
		t.Fatalf("%s of %s is false, and %s", what, toldMember(was), toldMember(got))
	}
	checkStaysMember(t, what, was, got)
	return got, ok
}

func checkSay(t *testing.T, m impl.Member, text string) (impl.Member, bool) {
	t.Helper()
	got, ok := impl.Say(m, text)
	want, wantOk := sayOf(m, text)
	return checkMade(t, fmt.Sprintf("Say %q", shortened(text)), m, got, want, ok, wantOk)
}

func checkDoubt(t *testing.T, m impl.Member, who int64) (impl.Member, bool) {
	t.Helper()
	got, ok := impl.Doubt(m, who)
	want, wantOk := doubtOf(m, who)
	return checkMade(t, fmt.Sprintf("Doubt %d", who), m, got, want, ok, wantOk)
}

func checkHeard(t *testing.T, m impl.Member, from int64, row impl.Row) (impl.Member, bool) {
	t.Helper()
	got, ok := impl.Heard(m, from, row)
	want, wantOk := heardOf(m, from, row)
	return checkMade(t, fmt.Sprintf("Heard of %d %s", from, toldRow(row)), m, got, want, ok, wantOk)
}

// checkStep asks for a second one, too: behind a Step there is nothing left to do until something is heard.
func checkStep(t *testing.T, m impl.Member) impl.Member {
	t.Helper()
	got, want := impl.Step(m), stepOf(m)
	checkMade(t, "Step", m, got, want, true, true)
	if again := impl.Step(got); !alikeMember(again, got) {
		t.Fatalf("a second Step of %s is %s", toldMember(got), toldMember(again))
	}
	return got
}

func checkVoice(t *testing.T, m impl.Member) []string {
	t.Helper()
	got, want := impl.Voice(m), voiceOf(m)
	if !slices.Equal(got, want) {
		t.Fatalf("Voice(%s) is %q, not %q", toldMember(m), got, want)
	}
	return got
}

// checkMember asks all functions, with arguments on both sides of each edge.
func checkMember(t *testing.T, m impl.Member) {
	t.Helper()
	checkMemberOk(t, m)
	for _, text := range []string{"", "new", strings.Repeat("z", 20), strings.Repeat("z", 21)} {
		checkSay(t, m, text)
	}
	for _, who := range []int64{-1, 0, 1, 2, 3, 4, 5, m.N, m.Id, math.MinInt64, math.MaxInt64} {
		checkDoubt(t, m, who)
		for _, row := range rowsToHear(m, who) {
			checkHeard(t, m, who, row)
		}
	}
	checkStep(t, m)
	checkVoice(t, m)
}

// rowsToHear are near to the one that m has of who, and of other lengths.
func rowsToHear(m impl.Member, who int64) []impl.Row {
	out := []impl.Row{{}, impl.NewRow(max(0, m.N)), impl.NewRow(m.N%5 + 1)}
	if who < 0 || who >= int64(len(m.Rows)) {
		return append(out, midRow(max(1, min(5, m.N))))
	}
	for by := int64(-1); by <= 1; by++ {
		out = append(out, changed(m.Rows[who], func(r *impl.Row) { r.Ver += by }))
		mid := midRow(max(1, min(5, m.N)))
		mid.Ver = m.Rows[who].Ver + by
		out = append(out, mid)
	}
	return out
}

// saidRow has so many Texts that tell whose they are.
func saidRow(who, count int64, got ...int64) impl.Row {
	r := impl.Row{Got: got}
	for i := range count {
		r.Texts = append(r.Texts, fmt.Sprintf("%d.%d", who, i))
	}
	return r
}

func wedgedRow(r impl.Row, suspects ...int64) impl.Row {
	r.Wedged, r.Suspects = true, suspects
	return r
}

func readyRow(r impl.Row, by int64, trim ...int64) impl.Row {
	r.Wedged, r.Ready, r.By, r.Trim = true, true, by, trim
	return r
}

// memberWith is the one of id, who sang so many; each Row without Texts has as many as its own Got says, and Ver 7.
func memberWith(id, sung int64, rows ...impl.Row) impl.Member {
	m := impl.Member{Id: id, N: int64(len(rows)), Sung: firstNumbers(sung)}
	for who, r := range rows {
		if len(r.Texts) == 0 {
			r.Texts = saidRow(int64(who), r.Got[who]).Texts
		}
		r.Ver = 7
		m.Rows = append(m.Rows, copiedRow(r))
	}
	return m
}

// gotRow has all of its numbers alike.
func gotRow(n, count int64) impl.Row { return impl.Row{Got: repeated(count, int(n))} }

// gotRows are n of these.
func gotRows(n, count int64) []impl.Row {
	out := []impl.Row{}
	for range n {
		out = append(out, gotRow(n, count))
	}
	return out
}

// endedMember is Done; it left one out in front, which no other Member may.
func endedMember(n, id int64) impl.Member {
	m := memberWith(id, 0, gotRows(n, 2)...)
	for who := range n {
		m.Rows[who] = readyRow(m.Rows[who], id, repeated(2, int(n))...)
	}
	m.Sung, m.Done = countedFrom(1, int(2*n)-1), true
	return m
}

// fullMember is at each upper limit but Ver; it sang all that can be sung.
func fullMember(n, id int64) impl.Member {
	m := memberWith(id, 0, gotRows(n, mostGot)...)
	for who := range m.Rows {
		m.Rows[who].Texts = repeatedText(strings.Repeat("x", longestSaid), mostSaid)
	}
	m.Sung = firstNumbers(mostSung)
	return m
}

func newMember(t *testing.T, id, n int64) impl.Member {
	t.Helper()
	m, ok := impl.NewMember(id, n)
	if !ok {
		t.Fatalf("NewMember(%d, %d) is false", id, n)
	}
	return m
}

// nearMember is of any n and Id.
func nearMember(lot *rand.Rand) impl.Member {
	n := 1 + lot.Int63n(5)
	return nearMemberOf(lot, lot.Int63n(n), n)
}

// nearMemberOf is a right one whose Rows are near to one another: so all parts of Step come up.
func nearMemberOf(lot *rand.Rand, id, n int64) impl.Member {
	m := impl.Member{Id: id, N: n}
	some := func(of int) bool { return lot.Intn(of) == 0 }
	suspects, by, trim, standing := drawnSuspects(lot, n), lot.Intn(int(n)), smallGot(lot, n), lot.Intn(3)
	if some(2) {
		// Half of the time it is the first one that nobody doubts, where there is one.
		by = slices.IndexFunc(firstNumbers(n), func(who int64) bool { return !slices.Contains(suspects, who) })
	}
	for range n {
		r := impl.Row{Ver: lot.Int63n(5), Got: smallGot(lot, n), Suspects: slices.Clone(suspects)}
		for range lot.Intn(5) {
			r.Texts = append(r.Texts, drawnText(lot, lot.Intn(4)))
		}
		if some(8) {
			r.Suspects = drawnSuspects(lot, n)
		}
		is := standing
		if some(8) {
			is = lot.Intn(3)
		}
		r.Wedged = is > 0
		if is == 2 {
			r.Ready, r.By, r.Trim = true, int64(max(0, by)), slices.Clone(trim)
			if some(10) {
				r.By = lot.Int63n(n)
			}
			if some(10) {
				r.Trim = smallGot(lot, n)
			}
		}
		if standing == 0 && !some(8) {
			r.Suspects = nil
		}
		m.Rows = append(m.Rows, r)
	}
	own := &m.Rows[m.Id]
	own.Got[m.Id] = int64(len(own.Texts))
	own.Suspects = slices.DeleteFunc(own.Suspects, func(who int64) bool { return who == m.Id })
	m.Sung = firstNumbers(lot.Int63n(4))
	if own.Ready && some(6) {
		m.Done, m.Sung = true, slices.DeleteFunc(firstNumbers(20), func(int64) bool { return lot.Intn(3) > 0 })
	}
	return m
}

func drawnSuspects(lot *rand.Rand, n int64) []int64 {
	return slices.DeleteFunc(firstNumbers(n), func(int64) bool { return lot.Intn(5) > 0 })
}

func smallGot(lot *rand.Rand, n int64) []int64 {
	out := []int64{}
	for range n {
		out = append(out, 1+lot.Int63n(3))
	}
	return out
}

// farMember is of any n and Id.
func farMember(lot *rand.Rand) impl.Member {
	n := 1 + lot.Int63n(5)
	return farMemberOf(lot, lot.Int63n(n), n)
}

// farMemberOf is a right one of any Rows at all.
func farMemberOf(lot *rand.Rand, id, n int64) impl.Member {
	m := impl.Member{Id: id, N: n}
	for range n {
		m.Rows = append(m.Rows, drawnRow(lot, n))
	}
	own := &m.Rows[m.Id]
	own.Got[m.Id] = int64(len(own.Texts))
	own.Suspects = slices.DeleteFunc(own.Suspects, func(who int64) bool { return who == m.Id })
	m.Sung = firstNumbers(lot.Int63n(mostSung + 1))
	if own.Ready && lot.Intn(2) == 0 {
		m.Done, m.Sung = true, slices.DeleteFunc(firstNumbers(mostSung), func(int64) bool { return lot.Intn(2) > 0 })
	}
	return m
}

// rightMembers are of each n and Id: new, at the limits, Done, and drawn.
func rightMembers() []impl.Member {
	lot := rand.New(rand.NewSource(170))
	var out []impl.Member
	for n := int64(1); n <= lastRow; n++ {
		for id := range n {
			fresh := impl.Member{Id: id, N: n}
			for range n {
				fresh.Rows = append(fresh.Rows, impl.NewRow(n))
			}
			out = append(out, fresh, fullMember(n, id), endedMember(n, id), memberWith(id, 2, gotRows(n, 3)...))
		}
	}
	for range 60 {
		out = append(out, nearMember(lot), farMember(lot))
	}
	return out
}

func TestMembersWrittenOut(t *testing.T) {
	row := impl.Row{Texts: []string{"x"}, Got: []int64{1, 0}}
	ready := impl.Row{Got: []int64{0, 0}, Wedged: true, Ready: true, By: 1, Trim: []int64{0, 12}}
	cases := []struct {
		member impl.Member
		want   bool
	}{
		{impl.Member{}, false},
		{impl.Member{N: 1, Rows: []impl.Row{{Got: []int64{0}}}}, true},
		{impl.Member{N: 1, Rows: []impl.Row{{Got: []int64{1}}}}, false},
		{impl.Member{N: 1, Rows: []impl.Row{{Got: []int64{0}, Texts: []string{""}}}}, false},
		{impl.Member{N: 1, Rows: []impl.Row{{Got: []int64{1}, Texts: []string{""}}}}, true},
		{impl.Member{N: 2, Rows: []impl.Row{row, row}}, true},
		// The same Rows as those of the other one: its own Got of 1 is not as many as its Texts.
		{impl.Member{Id: 1, N: 2, Rows: []impl.Row{row, row}}, false},
		{impl.Member{N: 2, Rows: []impl.Row{row, {Got: []int64{12, 12}}}}, true},
		{impl.Member{N: 2, Rows: []impl.Row{row}}, false},
		{impl.Member{N: 2, Rows: []impl.Row{row, row, row}}, false},
		{impl.Member{N: 1, Rows: []impl.Row{row}}, false},
		// Another one may doubt this one, and itself, too; this one may doubt the other one.
		{impl.Member{N: 2, Rows: []impl.Row{row, {Got: []int64{0, 0}, Suspects: []int64{0, 1}}}}, true},
		{impl.Member{N: 2, Rows: []impl.Row{{Got: []int64{0, 0}, Suspects: []int64{1}}, row}}, true},
		{impl.Member{N: 2, Rows: []impl.Row{{Got: []int64{0, 0}, Suspects: []int64{0}}, row}}, false},
		{impl.Member{N: 2, Rows: []impl.Row{{Got: []int64{0, 0}, Suspects: []int64{0, 1}}, row}}, false},
		{impl.Member{N: 2, Rows: []impl.Row{row, row}, Sung: []int64{0, 1, 2}}, true},
		{impl.Member{N: 2, Rows: []impl.Row{row, row}, Sung: []int64{0, 2}}, false},
		{impl.Member{N: 2, Rows: []impl.Row{row, row}, Sung: []int64{1}}, false},
		{impl.Member{N: 2, Rows: []impl.Row{row, row}, Sung: []int64{0}, Done: true}, false},
		{impl.Member{N: 2, Rows: []impl.Row{row, ready}, Sung: []int64{0}, Done: true}, false},
		{impl.Member{N: 2, Rows: []impl.Row{ready, row}, Sung: []int64{0}, Done: true}, true},
		{impl.Member{N: 2, Rows: []impl.Row{ready, row}, Sung: []int64{0}}, true},
		// Who is Done may have sung with gaps; but not below 0, beyond 59, or one twice.
		{impl.Member{N: 2, Rows: []impl.Row{ready, row}, Sung: []int64{1, 3, 59}, Done: true}, true},
		{impl.Member{N: 2, Rows: []impl.Row{ready, row}, Sung: []int64{1, 3, 59}}, false},
		{impl.Member{N: 2, Rows: []impl.Row{ready, row}, Sung: []int64{1, 3, 60}, Done: true}, false},
		{impl.Member{N: 2, Rows: []impl.Row{ready, row}, Sung: []int64{-1, 3}, Done: true}, false},
		{impl.Member{N: 2, Rows: []impl.Row{ready, row}, Sung: []int64{3, 1}, Done: true}, false},
		{impl.Member{N: 2, Rows: []impl.Row{ready, row}, Sung: []int64{3, 3}, Done: true}, false},
		{impl.Member{N: 2, Rows: []impl.Row{ready, row}, Done: true}, true},
		{impl.Member{N: 5, Id: 4, Rows: gotRows(5, 0)}, true},
		{impl.Member{N: 5, Id: 5, Rows: gotRows(5, 0)}, false},
		{impl.Member{N: 5, Id: -1, Rows: gotRows(5, 0)}, false},
		{impl.Member{N: 6, Rows: gotRows(6, 0)}, false},
	}
	for _, c := range cases {
		if got := impl.MemberOk(c.member); got != c.want || isRightMember(c.member) != c.want {
			t.Errorf("MemberOk(%s) is %v", toldMember(c.member), got)
		}
	}
}

func TestNewMember(t *testing.T) {
	for _, n := range rowLengths() {
		for _, id := range append(rowLengths(), n-1, n, n+1) {
			m, ok := impl.NewMember(id, n)
			right := n >= 1 && n <= 5 && id >= 0 && id < n
			if ok != right || impl.MemberOk(m) != right || !right && !isZeroMember(m) {
				t.Fatalf("NewMember(%d, %d) is %s, %v", id, n, toldMember(m), ok)
			}
			if !right {
				continue
			}
			if m.Id != id || m.N != n || int64(len(m.Rows)) != n || len(m.Sung) > 0 || m.Done {
				t.Fatalf("NewMember(%d, %d) is %s", id, n, toldMember(m))
			}
			for _, r := range m.Rows {
				if !alikeRow(r, impl.NewRow(n)) {
					t.Fatalf("a Row of NewMember(%d, %d) is %s", id, n, toldRow(r))
				}
			}
			// A new one has nothing to do and nothing to tell.
			if !alikeMember(checkStep(t, m), m) || len(checkVoice(t, m)) > 0 {
				t.Fatalf("Step of NewMember(%d, %d) is %s", id, n, toldMember(impl.Step(m)))
			}
		}
	}
}

func TestSayWrittenOut(t *testing.T) {
	m := newMember(t, 1, 3)
	m, ok := checkSay(t, m, "la")
	want := impl.Row{Ver: 1, Texts: []string{"la"}, Got: []int64{0, 1, 0}}
	if !ok || !alikeRow(m.Rows[1], want) || !alikeRow(m.Rows[0], impl.NewRow(3)) || !alikeRow(m.Rows[2], impl.NewRow(3)) || len(m.Sung) > 0 {
		t.Fatalf("Say is %s, %v", toldMember(m), ok)
	}
	m, ok = checkSay(t, m, "")
	want = impl.Row{Ver: 2, Texts: []string{"la", ""}, Got: []int64{0, 2, 0}}
	if !ok || !alikeRow(m.Rows[1], want) {
		t.Fatalf("Say of an empty text is %s, %v", toldMember(m), ok)
	}
	// Suspects alone bar nobody from saying: being Wedged does.
	doubting := changedOwn(m, func(own *impl.Row) { own.Suspects = []int64{0} })
	if _, ok := checkSay(t, doubting, "do"); !ok {
		t.Fatal("who has Suspects and is not Wedged may not say")
	}
	doubting.Rows[1].Wedged = true
	if got, ok := checkSay(t, doubting, "do"); ok || !alikeMember(got, doubting) {
		t.Fatal("who is Wedged may say")
	}
	// That another one is Wedged is not known before a Step.
	other := changedMember(m, func(m *impl.Member) { m.Rows[0] = wedgedRow(m.Rows[0], 1) })
	if _, ok := checkSay(t, other, "do"); !ok {
		t.Fatal("it may not say, since another one is Wedged")
	}
	if _, ok := checkSay(t, impl.Step(other), "do"); ok {
		t.Fatal("it may say behind a Step that wedged it")
	}
}

// Each of 12 Texts may be said, of 20 bytes each; neither a 13th nor one of 21 bytes.
func TestSayToTheLimits(t *testing.T) {
	for n := int64(1); n <= lastRow; n++ {
		for id := range n {
			m := newMember(t, id, n)
			for i := range int64(mostSaid) {
				text := strings.Repeat(string(rune('a'+i)), longestSaid)
				if got, ok := checkSay(t, m, text+"x"); ok || !alikeMember(got, m) {
					t.Fatalf("a text of 21 bytes is said: %s", toldMember(got))
				}
				var ok bool
				m, ok = checkSay(t, m, text)
				own := ownRow(m)
				if !ok || own.Ver != i+1 || own.Got[id] != i+1 || own.Texts[i] != text {
					t.Fatalf("Say number %d is %s, %v", i, toldMember(m), ok)
				}
			}
			for _, text := range []string{"", "x"} {
				if got, ok := checkSay(t, m, text); ok || !alikeMember(got, m) {
					t.Fatalf("a 13th text is said: %s", toldMember(got))
				}
			}
		}
	}
	m := newMember(t, 0, 2)
	for _, text := range saidTexts() {
		got, ok := checkSay(t, m, text)
		if !ok || got.Rows[0].Texts[0] != text {
			t.Fatalf("Say %q is %s, %v", text, toldMember(got), ok)
		}
	}
	for _, length := range []int{21, 22, 256, 276, 65536 + 20, 5000000} {
		if _, ok := checkSay(t, m, strings.Repeat("x", length)); ok {
			t.Fatalf("a text of %d bytes is said", length)
		}
	}
}

func TestDoubtWrittenOut(t *testing.T) {
	m := newMember(t, 2, 5)
	for i, c := range []struct {
		who      int64
		ok       bool
		suspects []int64
	}{
		{3, true, []int64{3}},
		{3, false, []int64{3}},
		{0, true, []int64{0, 3}},
		{2, false, []int64{0, 3}},
		{5, false, []int64{0, 3}},
		{-1, false, []int64{0, 3}},
		{4, true, []int64{0, 3, 4}},
		{1, true, []int64{0, 1, 3, 4}},
		{1, false, []int64{0, 1, 3, 4}},
		{4, false, []int64{0, 1, 3, 4}},
	} {
		was := ownRow(m).Ver
		got, ok := checkDoubt(t, m, c.who)
		own := ownRow(got)
		if ok != c.ok || !slices.Equal(own.Suspects, c.suspects) || !own.Wedged || own.Ready {
			t.Fatalf("Doubt number %d is %s, %v", i, toldMember(got), ok)
		}
		if c.ok && own.Ver != was+1 || !c.ok && own.Ver != was {
			t.Fatalf("behind Doubt number %d Ver is %d", i, own.Ver)
		}
		m = got
	}
	// Who is Ready but not Done may still doubt; and stays Ready.
	ready := memberWith(0, 0, readyRow(gotRow(3, 1), 0, 1, 1, 1), gotRow(3, 1), gotRow(3, 1))
	got, ok := checkDoubt(t, ready, 2)
	if !ok || !alikeRow(ownRow(got), changed(ownRow(ready), func(r *impl.Row) { r.Suspects, r.Ver = []int64{2}, 8 })) {
		t.Fatalf("Doubt of one that is Ready is %s, %v", toldMember(got), ok)
	}
}

// Each one is doubted in each order: Suspects rise, whoever came first.
func TestDoubtInAllOrders(t *testing.T) {
	for n := int64(1); n <= lastRow; n++ {
		for id := range n {
			for _, list := range allLists(int(min(4, n)), firstNumbers(n)...) {
				m := newMember(t, id, n)
				done := []int64{}
				for _, who := range list {
					var ok bool
					m, ok = checkDoubt(t, m, who)
					if ok != (who != id && !slices.Contains(done, who)) {
						t.Fatalf("Doubt %d of %d behind %v is %v", who, id, done, ok)
					}
					if ok {
						done = append(done, who)
					}
				}
				if own := ownRow(m); !slices.Equal(own.Suspects, slices.Sorted(slices.Values(done))) || own.Ver != int64(len(done)) || own.Wedged != (len(done) > 0) {
					t.Fatalf("behind Doubts of %v its Row is %s", list, toldRow(own))
				}
			}
		}
	}
}

func TestHeardWrittenOut(t *testing.T) {
	m := memberWith(1, 1, gotRow(3, 1), wedgedRow(gotRow(3, 1), 2), gotRow(3, 1))
	later := impl.Row{Ver: 8, Texts: []string{"p", "q"}, Got: []int64{2, 0, 1}, Suspects: []int64{0}}
	cases := []struct {
		what string
		from int64
		row  impl.Row
		want bool
	}{
		{"Later by one", 0, later, true},
		{"Later by many", 0, changed(later, func(r *impl.Row) { r.Ver = most }), true},
		{"alike Ver", 0, changed(later, func(r *impl.Row) { r.Ver = 7 }), false},
		{"the same Row", 0, m.Rows[0], false},
		{"less by one", 0, changed(later, func(r *impl.Row) { r.Ver = 6 }), false},
		{"Ver beyond", 0, changed(later, func(r *impl.Row) { r.Ver = most + 1 }), false},
		{"no right Row", 0, changed(later, func(r *impl.Row) { r.By = 1 }), false},
		{"one too short", 0, changed(later, func(r *impl.Row) { r.Got = []int64{2, 0} }), false},
		{"one too long", 0, changed(later, func(r *impl.Row) { r.Got = []int64{2, 0, 1, 0} }), false},
		{"of itself", 1, later, false},
		{"of a Suspect", 2, later, false},
		{"of none below", -1, later, false},
		{"of none above", 3, later, false},
		{"fewer Texts", 0, impl.Row{Ver: 8, Got: []int64{0, 0, 0}}, true},
		{"that is Ready", 0, readyRow(impl.Row{Ver: 8, Got: []int64{0, 0, 0}}, 2, 0, 0, 0), true},
	}
	for _, c := range cases {
		got, ok := checkHeard(t, m, c.from, c.row)
		if ok != c.want {
			t.Fatalf("Heard: %s is %v", c.what, ok)
		}
		want := copiedMember(m)
		if ok {
			want.Rows[c.from] = c.row
		}
		if !alikeMember(got, want) {
			t.Fatalf("Heard: %s is %s", c.what, toldMember(got))
		}
	}
}

// A group of one has nobody to hear or to doubt, and sings whatever it says.
func TestMemberAlone(t *testing.T) {
	m := newMember(t, 0, 1)
	for _, from := range append(ends(), 0, 1) {
		if _, ok := checkHeard(t, m, from, impl.Row{Ver: 1, Got: []int64{0}}); ok {
			t.Fatalf("it heard of %d", from)
		}
		if _, ok := checkDoubt(t, m, from); ok {
			t.Fatalf("it doubts %d", from)
		}
	}
	var said []string
	for i := range mostSaid {
		text := fmt.Sprint("t", i)
		m, _ = checkSay(t, m, text)
		said = append(said, text)
		if i%3 == 2 {
			m = checkStep(t, m)
			if !slices.Equal(checkVoice(t, m), said) || len(m.Sung) != len(said) {
				t.Fatalf("%q is sung as %q", said, impl.Voice(m))
			}
		}
	}
	// One that is Wedged is by itself all that are left: it ends at once, with all it said.
	m = newMember(t, 0, 1)
	m, _ = impl.Say(m, "a")
	m, _ = impl.Say(m, "b")
	m = checkStep(t, changedOwn(m, func(own *impl.Row) { own.Wedged = true }))
	if !m.Done || !slices.Equal(m.Sung, []int64{0, 1}) || !alikeRow(ownRow(m), impl.Row{Ver: 3, Texts: []string{"a", "b"}, Got: []int64{2}, Wedged: true, Ready: true, Trim: []int64{2}}) {
		t.Fatalf("one alone that is Wedged is behind a Step %s", toldMember(m))
	}
}

// A letter is a Row on its way.
type letter struct {
	from, to int64
	row      impl.Row
}

// A choir is Members who say, doubt, hear and step in any order; letters come late, twice, in any order, or never.
type choir struct {
	members []impl.Member
	letters []letter
	seen    map[string]int
}

func newChoir(t *testing.T, n int64) *choir {
	t.Helper()
	c := &choir{seen: map[string]int{}}
	for id := range n {
		c.members = append(c.members, newMember(t, id, n))
	}
	return c
}

func (c *choir) count(what string, is bool) {
	if is {
		c.seen[what]++
	}
}

func (c *choir) send(who int64) {
	for to := range c.members {
		if int64(to) != who {
			c.letters = append(c.letters, letter{who, int64(to), copiedRow(ownRow(c.members[who]))})
		}
	}
}

// hearOne takes any of the letters, and leaves it lying now and then: so that it comes again.
func (c *choir) hearOne(t *testing.T, lot *rand.Rand) {
	t.Helper()
	if len(c.letters) == 0 {
		return
	}
	k := lot.Intn(len(c.letters))
	if lot.Intn(2) == 0 {
		k = 0
	}
	l := c.letters[k]
	if lot.Intn(5) > 0 {
		c.letters = slices.Delete(c.letters, k, k+1)
	}
	got, ok := checkHeard(t, c.members[l.to], l.from, l.row)
	c.members[l.to] = got
	c.count("heard", ok)
	c.count("not heard", !ok)
}

func (c *choir) stepOne(t *testing.T, who int64) {
	t.Helper()
	was := c.members[who]
	c.members[who] = checkStep(t, was)
	c.count("sung", len(c.members[who].Sung) > len(was.Sung))
	c.count("wedged", ownRow(c.members[who]).Wedged && !ownRow(was).Wedged)
	c.count("ready", ownRow(c.members[who]).Ready && !ownRow(was).Ready)
	c.count("done", c.members[who].Done && !was.Done)
}

// act is one thing that one of them does; doubts are rare, so that there is something to sing first.
func (c *choir) act(t *testing.T, lot *rand.Rand) {
	t.Helper()
	who, ok := lot.Int63n(int64(len(c.members))), false
	switch lot.Intn(40) {
	case 0, 1, 2, 3, 4:
		c.members[who], ok = checkSay(t, c.members[who], fmt.Sprint(who, "+", lot.Intn(1000)))
		c.count("said", ok)
	case 5:
		if lot.Intn(3) == 0 {
			c.members[who], ok = checkDoubt(t, c.members[who], lot.Int63n(int64(len(c.members))+2)-1)
			c.count("doubted", ok)
		}
	case 6, 7, 8, 9, 10, 11:
		c.send(who)
	case 12, 13, 14, 15, 16, 17, 18, 19:
		c.stepOne(t, who)
	default:
		for range 3 {
			c.hearOne(t, lot)
		}
	}
	checkVoice(t, c.members[who])
}

// Promise 17: ordinary Members of groups of 1 to 5, in many orders; each call is held against the document, and against what the Member was.
func TestMembersInGroups(t *testing.T) {
	lot := rand.New(rand.NewSource(172))
	seen := map[string]int{}
	for n := int64(1); n <= lastRow; n++ {
		for range 80 {
			c := newChoir(t, n)
			first := []impl.Member{}
			for _, m := range c.members {
				first = append(first, copiedMember(m))
			}
			for range 250 {
				c.act(t, lot)
			}
			for id, m := range c.members {
				checkStaysMember(t, "all acts", first[id], m)
			}
			for what, count := range c.seen {
				seen[what] += count
			}
		}
	}
	for _, what := range []string{"said", "doubted", "heard", "not heard", "sung", "wedged", "ready", "done"} {
		if seen[what] < 50 {
			t.Fatalf("%s came up %d times: %v", what, seen[what], seen)
		}
	}
}

// Where nobody doubts and all Rows come, each sings all that is Ready, and all of its Texts.
func TestMembersSingAllThatIsReady(t *testing.T) {
	lot := rand.New(rand.NewSource(173))
	for n := int64(1); n <= lastRow; n++ {
		for range 25 {
			c := newChoir(t, n)
			counts := []int64{}
			for who := range n {
				counts = append(counts, lot.Int63n(mostSaid+1))
				for i := range counts[who] {
					c.members[who], _ = checkSay(t, c.members[who], fmt.Sprintf("%d.%d", who, i))
				}
			}
			for range 3 {
				for who := range n {
					c.send(who)
				}
				for _, l := range c.letters {
					c.members[l.to], _ = impl.Heard(c.members[l.to], l.from, l.row)
				}
				c.letters = nil
				for who := range n {
					c.stepOne(t, who)
				}
			}
			ready := firstGap(counts)
			for who, m := range c.members {
				voice := checkVoice(t, m)
				if int64(len(m.Sung)) != ready || int64(len(voice)) != ready {
					t.Fatalf("of %v, %d sang %v", counts, who, m.Sung)
				}
				for seq, text := range voice {
					if text != fmt.Sprintf("%d.%d", int64(seq)%n, int64(seq)/n) {
						t.Fatalf("of %v, %d sang %q", counts, who, voice)
					}
				}
			}
		}
	}
}

// One falls after the others have heard some of its Texts: those left come to one end, and sing the same.
func TestMembersThatAreLeftEnd(t *testing.T) {
	for n := int64(3); n <= lastRow; n++ {
		for fallen := range n {
			c := newChoir(t, n)
			for who := range n {
				for i := range who + 2 {
					c.members[who], _ = checkSay(t, c.members[who], fmt.Sprintf("%d.%d", who, i))
				}
			}
			// All but one hear the one that falls.
			deaf := (fallen + 1) % n
			for round := range 9 {
				for who := range n {
					if who != fallen || round == 0 {
						c.send(who)
					}
				}
				for _, l := range c.letters {
					if l.to != fallen && (l.from != fallen || l.to != deaf) {
						c.members[l.to], _ = checkHeard(t, c.members[l.to], l.from, l.row)
					}
				}
				c.letters = nil
				if round == 2 {
					c.members[deaf], _ = checkDoubt(t, c.members[deaf], fallen)
				}
				for who := range n {
					if who != fallen {
						c.stepOne(t, who)
					}
				}
			}
			want := c.members[deaf]
			lead := int64(0)
			if fallen == 0 {
				lead = 1
			}
			for who, m := range c.members {
				if int64(who) == fallen {
					continue
				}
				own := ownRow(m)
				if !m.Done || own.By != lead || !slices.Equal(own.Trim, ownRow(want).Trim) || !slices.Equal(m.Sung, want.Sung) || !slices.Equal(checkVoice(t, m), impl.Voice(want)) {
					t.Fatalf("of %d, %d fell: %s and %s", n, fallen, toldMember(m), toldMember(want))
				}
				if own.Trim[fallen] != 0 || len(m.Sung) == 0 {
					t.Fatalf("of %d, %d fell, whom %d did not hear: %s", n, fallen, deaf, toldMember(m))
				}
			}
		}
	}
}

// Right Members of any kind, each function; and what comes of them, once more.
func TestManyDrawnSingers(t *testing.T) {
	lot := rand.New(rand.NewSource(174))
	for range 400 {
		for _, m := range []impl.Member{nearMember(lot), farMember(lot)} {
			if !checkMemberOk(t, m) {
				t.Fatalf("MemberOk(%s) is false", toldMember(m))
			}
			checkMember(t, m)
			checkMember(t, checkStep(t, m))
		}
	}
}

// nudgedMember changes one thing, whether that is right or not.
func nudgedMember(lot *rand.Rand, m impl.Member) impl.Member {
	return changedMember(m, func(m *impl.Member) {
		by, at := lot.Int63n(3)-1, lot.Intn(len(m.Rows))
		switch lot.Intn(8) {
		case 0:
			m.Id += by
		case 1:
			m.N += by
		case 2:
			m.Rows = slices.Delete(m.Rows, at, at+1)
		case 3:
			m.Rows = append(m.Rows, copiedRow(m.Rows[at]))
		case 4:
			m.Sung = append(m.Sung, int64(len(m.Sung))+by)
		case 5:
			m.Done = !m.Done
		default:
			m.Rows[at] = nudged(lot, m.Rows[at])
		}
	})
}

func TestManyNudgedSingers(t *testing.T) {
	lot := rand.New(rand.NewSource(175))
	right := 0
	for range 12000 {
		m := nearMember(lot)
		if lot.Intn(3) == 0 {
			m = farMember(lot)
		}
		m = nudgedMember(lot, m)
		if checkMemberOk(t, m) {
			right++
		}
		checkSay(t, m, "x")
		checkDoubt(t, m, lot.Int63n(7)-1)
		checkHeard(t, m, lot.Int63n(7)-1, nudged(lot, drawnRow(lot, max(1, min(5, m.N)))))
		checkStep(t, m)
		checkVoice(t, m)
	}
	if right < 2000 || right > 10000 {
		t.Fatalf("%d of 12000 are right", right)
	}
}

// smallStandings are Rows of three, near to one another: each way in which one may stand to a doubt and to an end.
func smallStandings() []impl.Row {
	out := []impl.Row{gotRow(3, 1), {Got: []int64{1, 2, 0}, Texts: []string{"a", "b"}}}
	for _, suspects := range [][]int64{nil, {0}, {1}, {2}, {0, 1}} {
		out = append(out, wedgedRow(gotRow(3, 1), suspects...))
		for by := range int64(3) {
			out = append(out, readyRow(wedgedRow(gotRow(3, 1), suspects...), by, 1, 1, 0))
		}
	}
	return append(out, readyRow(gotRow(3, 2), 0, 0, 0, 2), readyRow(gotRow(3, 2), 1, 0, 0, 2), wedgedRow(impl.Row{Got: []int64{2, 0, 1}}))
}

// All threes of these Rows, of each of the three.
func TestAllSmallSingers(t *testing.T) {
	rows := smallStandings()
	right := 0
	for _, three := range allLists(3, rows...) {
		for id := range int64(3) {
			m := impl.Member{Id: id, N: 3, Sung: []int64{0}}
			for who, r := range three {
				r = copiedRow(r)
				r.Texts = saidRow(int64(who), r.Got[who]).Texts
				m.Rows = append(m.Rows, r)
			}
			if !impl.MemberOk(m) {
				continue
			}
			right++
			checkStep(t, m)
		}
	}
	if right < 20000 {
		t.Fatalf("only %d are right", right)
	}
}

// All twos, with each of them; half of two is not more than half.
func TestAllSingersOfTwo(t *testing.T) {
	for _, flags := range allLists(4, false, true) {
		for _, suspects := range allLists(2, partsOf(2)...) {
			for _, by := range allLists[int64](2, 0, 1) {
				for _, trims := range allLists(2, []int64{1, 0}, []int64{1, 1}) {
					for id := range int64(2) {
						m := memberWith(id, 0, gotRow(2, 1), gotRow(2, 1))
						for who := range m.Rows {
							r := &m.Rows[who]
							r.Suspects, r.Wedged = slices.Clone(suspects[who]), flags[who] || flags[2+who]
							if flags[2+who] {
								*r = readyRow(*r, by[who], slices.Clone(trims[who])...)
							}
						}
						checkMemberOk(t, m)
						got := checkStep(t, m)
						if got.Done && len(ownRow(got).Suspects) > 0 {
							t.Fatalf("one of two is left, and Done: %s", toldMember(got))
						}
					}
				}
			}
		}
	}
}

// Who is Done does nothing any more, whatever it is asked.
func TestDoneMembers(t *testing.T) {
	lot := rand.New(rand.NewSource(176))
	var all []impl.Member
	for n := int64(1); n <= lastRow; n++ {
		for id := range n {
			m := endedMember(n, id)
			all = append(all, m)
			// What would be done, if it were not Done, is much.
			all = append(all, changedMember(m, func(m *impl.Member) {
				for who := range m.Rows {
					if int64(who) != id {
						m.Rows[who] = wedgedRow(gotRow(n, 12), firstNumbers(n)...)
						m.Rows[who].Texts = repeatedText("t", 12)
					}
				}
			}))
			all = append(all, changedMember(m, func(m *impl.Member) { m.Sung = nil }), changedMember(m, func(m *impl.Member) { m.Sung = []int64{59} }))
		}
	}
	for range 300 {
		if m := nearMember(lot); m.Done {
			all = append(all, m)
		}
	}
	for _, m := range all {
		checkMember(t, m)
		if got := impl.Step(m); !impl.MemberOk(m) || !alikeMember(got, m) {
			t.Fatalf("Step of %s is %s", toldMember(m), toldMember(got))
		}
		if got, ok := impl.Say(m, "x"); ok || !alikeMember(got, m) {
			t.Fatalf("Say of %s is %s, %v", toldMember(m), toldMember(got), ok)
		}
		for who := range m.N {
			if got, ok := impl.Doubt(m, who); ok || !alikeMember(got, m) {
				t.Fatalf("Doubt of %s is %s, %v", toldMember(m), toldMember(got), ok)
			}
			later := changed(m.Rows[who], func(r *impl.Row) { r.Ver++ })
			if got, ok := impl.Heard(m, who, later); ok || !alikeMember(got, m) {
				t.Fatalf("Heard of %s is %s, %v", toldMember(m), toldMember(got), ok)
			}
		}
	}
}

// A wrongMember is a right Member with one thing wrong.
type wrongMember struct {
	why    string
	member impl.Member
}

// wrongNumbersOf are wrong by N, Id or the count of Rows alone.
func wrongNumbersOf(base impl.Member) []wrongMember {
	var out []wrongMember
	n := base.N
	set := func(why string, change func(m *impl.Member)) {
		out = append(out, wrongMember{why, changedMember(base, change)})
	}
	for _, id := range append(ends(), -n, n, n+1, 5, 6, 256, 1<<32) {
		set(fmt.Sprint("Id ", id), func(m *impl.Member) { m.Id = id })
	}
	for _, other := range append(ends(), 0, -n, n-1, n+1, 6, 256+n, 1<<32+n, 1<<32) {
		set(fmt.Sprint("N ", other), func(m *impl.Member) { m.N = other })
	}
	set("a Row too few", func(m *impl.Member) { m.Rows = m.Rows[:n-1] })
	set("a Row too few in front", func(m *impl.Member) { m.Rows = m.Rows[1:] })
	set("a Row too many", func(m *impl.Member) { m.Rows = append(m.Rows, impl.NewRow(n)) })
	set("a Row too many in front", func(m *impl.Member) { m.Rows = append([]impl.Row{impl.NewRow(n)}, m.Rows...) })
	set("no Rows", func(m *impl.Member) { m.Rows = nil })
	set("an empty Row", func(m *impl.Member) { m.Rows[0] = impl.Row{} })
	set("N 6 with six Rows", func(m *impl.Member) { m.N, m.Rows = 6, gotRows(6, 0) })
	set("no Rows and no N", func(m *impl.Member) { m.Id, m.N, m.Rows = 0, 0, nil })
	return out
}

// wrongRowsOf are wrong by one Row alone, its own and each other one's.
func wrongRowsOf(base impl.Member) []wrongMember {
	var out []wrongMember
	for who := range base.Rows {
		for why, change := range wrongEverywhere(base.N) {
			bad := changed(base.Rows[who], change)
			if isRow(bad, base.N) {
				continue
			}
			out = append(out, wrongMember{fmt.Sprint("of Row ", who, ": ", why), changedMember(base, func(m *impl.Member) { m.Rows[who] = bad })})
		}
		for _, c := range wrongRows() {
			if c.n == base.N {
				out = append(out, wrongMember{fmt.Sprint("Row ", who, ": ", c.why), changedMember(base, func(m *impl.Member) { m.Rows[who] = copiedRow(c.row) })})
			}
		}
	}
	return out
}

// wrongOwn are wrong by its own Row alone, which is a right one.
func wrongOwn(base impl.Member) []wrongMember {
	var out []wrongMember
	set := func(why string, change func(own *impl.Row)) {
		out = append(out, wrongMember{why, changedOwn(base, change)})
	}
	id := base.Id
	if ownRow(base).Got[id] > 0 {
		set("Got one less than its Texts", func(own *impl.Row) { own.Got[id]-- })
		set("a Text less than Got", func(own *impl.Row) { own.Texts = own.Texts[1:] })
		set("no Got of itself", func(own *impl.Row) { own.Got[id] = 0 })
	}
	if ownRow(base).Got[id] < 12 {
		set("Got one more than its Texts", func(own *impl.Row) { own.Got[id]++ })
		set("a Text more than Got", func(own *impl.Row) { own.Texts = append(own.Texts, "") })
	}
	set("it doubts itself", func(own *impl.Row) { own.Suspects = []int64{id} })
	set("it doubts all", func(own *impl.Row) { own.Suspects = firstNumbers(base.N) })
	return out
}

// wrongSung are wrong by Sung alone; those of one that is Done, whatever it is, too.
func wrongSung(base impl.Member) []wrongMember {
	var out []wrongMember
	set := func(why string, list ...int64) {
		out = append(out, wrongMember{why, changedMember(base, func(m *impl.Member) { m.Sung = list })})
	}
	set("61 were sung", firstNumbers(61)...)
	set("61 were sung, the last one twice", append(firstNumbers(60), 59)...)
	set("the first one below 0", countedFrom(-1, 4)...)
	set("-1 alone", -1)
	set("60 alone", 60)
	set("60 at the end", 0, 1, 60)
	set("two alike", 0, 1, 1)
	set("the first two alike", 0, 0)
	set("not rising", 0, 2, 1)
	set("the first one behind", 1, 0)
	set("the least", math.MinInt64)
	set("the greatest", 0, math.MaxInt64)
	set("beyond 32 bits", 1<<32)
	if !base.Done {
		set("not from 0 on", 1)
		set("not from 0 on, to 59", countedFrom(1, 59)...)
		set("a gap", 0, 1, 3)
		set("a gap at the end", append(firstNumbers(58), 59)...)
		set("59 alone", 59)
	}
	return out
}

// membersWrong are all of these, each for one reason alone.
func membersWrong() []wrongMember {
	out := []wrongMember{{"zero", impl.Member{}}}
	for n := int64(1); n <= lastRow; n++ {
		for id := range n {
			plain := memberWith(id, 2, gotRows(n, 2)...)
			ended := endedMember(n, id)
			for _, base := range []impl.Member{plain, ended} {
				out = slices.Concat(out, wrongNumbersOf(base), wrongRowsOf(base), wrongOwn(base), wrongSung(base))
			}
			out = append(out,
				wrongMember{"Done, and not Ready", changedMember(plain, func(m *impl.Member) { m.Done = true })},
				wrongMember{"Done, and only Wedged", changedMember(plain, func(m *impl.Member) { m.Done, m.Rows[id].Wedged = true, true })},
				wrongMember{"Done, and all others are Ready", changedMember(ended, func(m *impl.Member) { m.Rows[id] = unready(m.Rows[id]) })},
				wrongMember{"sang with a gap, and is not Done", changedMember(ended, func(m *impl.Member) { m.Done = false })},
			)
		}
	}
	return out
}

// Promise 21: what is no right Member has the zero Member, false and nothing for an answer.
func TestWrongMembers(t *testing.T) {
	for _, c := range membersWrong() {
		m := c.member
		if isRightMember(m) {
			t.Fatalf("%s: it is right: %s", c.why, toldMember(m))
		}
		checkNoMember(t, c.why, m)
	}
}

func checkNoMember(t *testing.T, why string, m impl.Member) {
	t.Helper()
	if impl.MemberOk(m) {
		t.Fatalf("%s: MemberOk(%s) is true", why, toldMember(m))
	}
	for _, text := range []string{"", "x", strings.Repeat("x", 21)} {
		if got, ok := impl.Say(m, text); ok || !isZeroMember(got) {
			t.Fatalf("%s: Say of %s is %s, %v", why, toldMember(m), toldMember(got), ok)
		}
	}
	for _, who := range []int64{-1, 0, 1, 2, 4, 5} {
		if got, ok := impl.Doubt(m, who); ok || !isZeroMember(got) {
			t.Fatalf("%s: Doubt %d of %s is %s, %v", why, who, toldMember(m), toldMember(got), ok)
		}
		for _, row := range []impl.Row{{}, {Ver: 9, Got: repeated(0, int(max(0, min(6, m.N))))}} {
			if got, ok := impl.Heard(m, who, row); ok || !isZeroMember(got) {
				t.Fatalf("%s: Heard of %s is %s, %v", why, toldMember(m), toldMember(got), ok)
			}
		}
	}
	if got := impl.Step(m); !isZeroMember(got) {
		t.Fatalf("%s: Step of %s is %s", why, toldMember(m), toldMember(got))
	}
	if got := impl.Voice(m); len(got) > 0 {
		t.Fatalf("%s: Voice of %s is %q", why, toldMember(m), got)
	}
}

// Each thing at its limit is right, and each one that passes it by one is not.
func TestMembersAtTheLimits(t *testing.T) {
	for n := int64(1); n <= lastRow; n++ {
		for id := range n {
			full := fullMember(n, id)
			right := []impl.Member{full, changedMember(full, func(m *impl.Member) { m.Sung = firstNumbers(59) }), changedMember(full, func(m *impl.Member) { m.Sung = nil })}
			for who := range n {
				right = append(right, changedMember(full, func(m *impl.Member) { m.Rows[who].Ver = most }))
				if who != id {
					// What another one has got is not held against its Texts.
					right = append(right, changedMember(full, func(m *impl.Member) { m.Rows[who].Texts = nil }), changedMember(full, func(m *impl.Member) { m.Rows[who].Got = repeated(0, int(n)) }))
					right = append(right, changedMember(full, func(m *impl.Member) { m.Rows[who] = fullRow(n) }))
				}
			}
			for _, m := range right {
				if !impl.MemberOk(m) {
					t.Fatalf("MemberOk(%s) is false", toldMember(m))
				}
				checkMember(t, m)
			}
			for who := range n {
				for _, change := range []func(r *impl.Row){
					func(r *impl.Row) { r.Ver = most + 1 },
					func(r *impl.Row) { r.Texts = repeatedText("x", 13) },
					func(r *impl.Row) { r.Texts[11] = strings.Repeat("x", 21) },
					func(r *impl.Row) { r.Got[0] = 13 },
					func(r *impl.Row) { r.Suspects = []int64{n} },
				} {
					checkNoMember(t, "a limit is passed", changedMember(full, func(m *impl.Member) { change(&m.Rows[who]) }))
				}
			}
		}
	}
}

// No Ver is beyond MaxCount: what would need one is not done at all, and the Member stays right.
func TestLastVer(t *testing.T) {
	for n := int64(1); n <= lastRow; n++ {
		for id := range n {
			for _, ver := range []int64{most - 1, most} {
				m := memberWith(id, 0, gotRows(n, 1)...)
				m.Rows[id].Ver = ver
				room := ver < most
				if got, ok := checkSay(t, m, "x"); ok != room || ok && ownRow(got).Ver != most || !ok && !alikeMember(got, m) {
					t.Fatalf("Say at Ver %d is %s, %v", ver, toldMember(got), ok)
				}
				if n > 1 {
					who := (id + 1) % n
					if got, ok := checkDoubt(t, m, who); ok != room || ok && ownRow(got).Ver != most || !ok && !alikeMember(got, m) {
						t.Fatalf("Doubt at Ver %d is %s, %v", ver, toldMember(got), ok)
					}
					// A Step that changes its Row needs a Ver: for a count, a doubt or an end.
					more := changedMember(m, func(m *impl.Member) { m.Rows[who].Texts = []string{"a", "b"} })
					wedge := changedMember(m, func(m *impl.Member) { m.Rows[who].Wedged = true })
					steps := []impl.Member{more, wedge}
					if id == 0 {
						steps = append(steps, suspecting(m))
					}
					for _, needs := range steps {
						if got := checkStep(t, needs); ownRow(got).Ver != most || !room && !alikeMember(got, needs) {
							t.Fatalf("Step at Ver %d of %s is %s", ver, toldMember(needs), toldMember(got))
						}
					}
					// Hearing needs none.
					if _, ok := checkHeard(t, m, who, changed(m.Rows[who], func(r *impl.Row) { r.Ver = most })); !ok {
						t.Fatalf("at Ver %d it hears nothing", ver)
					}
					// At the last Ver another one has nothing Later to tell.
					top := changedMember(m, func(m *impl.Member) { m.Rows[who].Ver = most })
					for _, next := range []int64{most - 1, most, most + 1} {
						if _, ok := checkHeard(t, top, who, changed(m.Rows[who], func(r *impl.Row) { r.Ver = next })); ok {
							t.Fatalf("Ver %d is Later than the last one", next)
						}
					}
				}
				// Singing, and being Done, needs none.
				if got := checkStep(t, m); int64(len(got.Sung)) != n || ownRow(got).Ver != ver {
					t.Fatalf("at Ver %d it sang %v", ver, got.Sung)
				}
				ended := changedMember(endedMember(n, id), func(m *impl.Member) { m.Done, m.Sung, m.Rows[id].Ver = false, nil, ver })
				if got := checkStep(t, ended); !got.Done || int64(len(got.Sung)) != 2*n || ownRow(got).Ver != ver {
					t.Fatalf("at Ver %d Step of %s is %s", ver, toldMember(ended), toldMember(got))
				}
			}
		}
	}
}

// At the last Ver a Step that would change its Row does nothing else either: nothing is sung by it.
func TestStepWithoutAVerDoesNothing(t *testing.T) {
	m := memberWith(0, 0, impl.Row{Got: []int64{1, 0}}, impl.Row{Got: []int64{1, 1}})
	if got := checkStep(t, m); !slices.Equal(got.Sung, []int64{0, 1}) || ownRow(got).Ver != 8 {
		t.Fatalf("Step is %s", toldMember(got))
	}
	m.Rows[0].Ver = most
	if got := checkStep(t, m); !alikeMember(got, m) {
		t.Fatalf("Step without a Ver is %s", toldMember(got))
	}
}

// Promise 21: who and from at both ends of the numbers, and all between.
func TestWhoAndFromAtTheEnds(t *testing.T) {
	for _, m := range rightMembers() {
		for _, who := range append(ends(), -5, 0, 1, 2, 3, 4, 5, 6, 7, 8, 255, 256, 257, 1<<32, 1<<32+1, 1<<32+4, m.N, m.Id) {
			_, ok := checkDoubt(t, m, who)
			if ok && !isAnotherLeft(m, who) {
				t.Fatalf("Doubt %d of %s is true", who, toldMember(m))
			}
			for _, row := range rowsToHear(m, who) {
				if _, ok := checkHeard(t, m, who, row); ok && (!isAnotherLeft(m, who) || m.Done) {
					t.Fatalf("Heard of %d of %s is true", who, toldMember(m))
				}
			}
		}
	}
}

// Each Row that is wrong by one thing alone, and each of another length, is refused, whatever its Ver is.
func TestHeardOfWrongRows(t *testing.T) {
	for _, c := range wrongRows() {
		for n := int64(2); n <= lastRow; n++ {
			m := memberWith(0, 0, gotRows(n, 1)...)
			for _, ver := range []int64{c.row.Ver, 8, most} {
				row := changed(c.row, func(r *impl.Row) { r.Ver = ver })
				if got, ok := checkHeard(t, m, 1, row); ok != (isRow(row, n) && ver > 7) || !ok && !alikeMember(got, m) {
					t.Fatalf("%s: Heard of %s is %v", c.why, toldRow(row), ok)
				}
			}
		}
	}
	for n := int64(2); n <= lastRow; n++ {
		for other := int64(1); other <= 8; other++ {
			for _, row := range []impl.Row{{Ver: 9, Got: repeated(0, int(other))}, fullRow(other), changed(midRow(other), func(r *impl.Row) { r.Ver = 9 })} {
				if _, ok := checkHeard(t, memberWith(1, 0, gotRows(n, 1)...), 0, row); ok != (other == n) {
					t.Fatalf("of %d, Heard of a Row of %d is %v", n, other, ok)
				}
			}
		}
	}
}

func TestVoiceWrittenOut(t *testing.T) {
	m := memberWith(1, 0, impl.Row{Texts: []string{"a", "b"}, Got: []int64{0, 0}}, impl.Row{Texts: []string{"c", "", "e"}, Got: []int64{0, 3}})
	ended := changedMember(m, func(m *impl.Member) { m.Rows[1] = readyRow(m.Rows[1], 0, 0, 0); m.Done = true })
	for _, c := range []struct {
		member impl.Member
		sung   []int64
		want   []string
	}{
		{m, nil, nil},
		{m, []int64{0}, []string{"a"}},
		{m, []int64{0, 1}, []string{"a", "c"}},
		{m, []int64{0, 1, 2, 3}, []string{"a", "c", "b", ""}},
		// The third Text of the first one it has not.
		{m, []int64{0, 1, 2, 3, 4}, nil},
		{m, []int64{0, 1, 2, 3, 4, 5}, nil},
		{m, []int64{1}, nil},
		{ended, []int64{1}, []string{"c"}},
		{ended, []int64{0, 3, 5}, []string{"a", "", "e"}},
		{ended, []int64{2, 5}, []string{"b", "e"}},
		{ended, []int64{4, 5}, nil},
		{ended, []int64{5, 7}, nil},
		{ended, []int64{0, 59}, nil},
		{ended, []int64{60}, nil},
	} {
		got := checkVoice(t, changedMember(c.member, func(m *impl.Member) { m.Sung = c.sung }))
		if !slices.Equal(got, c.want) {
			t.Errorf("Voice of %v is %q", c.sung, got)
		}
	}
	// What it got of another one by a Row that has fewer Texts now, it can't tell any more.
	m = memberWith(0, 0, gotRow(2, 1), gotRow(2, 1))
	m = checkStep(t, m)
	if got := checkVoice(t, m); !slices.Equal(got, []string{"0.0", "1.0"}) {
		t.Fatalf("Voice is %q", got)
	}
	m, ok := checkHeard(t, m, 1, impl.Row{Ver: 8, Got: []int64{1, 1}})
	if got := checkVoice(t, m); !ok || len(got) > 0 || len(m.Sung) != 2 {
		t.Fatalf("Voice without a Text is %q", got)
	}
}

// Of all it sang each one alone may be lacking.
func TestVoiceWithoutOneText(t *testing.T) {
	for n := int64(1); n <= lastRow; n++ {
		m := memberWith(0, 3*n, gotRows(n, 3)...)
		want := []string{}
		for seq := range 3 * n {
			want = append(want, fmt.Sprintf("%d.%d", seq%n, seq/n))
		}
		if got := checkVoice(t, m); !slices.Equal(got, want) {
			t.Fatalf("of %d Voice is %q", n, got)
		}
		for who := int64(1); who < n; who++ {
			for count := range 4 {
				short := changedMember(m, func(m *impl.Member) { m.Rows[who].Texts = m.Rows[who].Texts[:count] })
				for sung := range 3*n + 1 {
					short.Sung = firstNumbers(sung)
					has := true
					for seq := range sung {
						has = has && (seq%n != who || seq/n < int64(count))
					}
					if got := checkVoice(t, short); has && int64(len(got)) != sung || !has && len(got) > 0 {
						t.Fatalf("of %d, with %d Texts of %d, Voice of %d is %q", n, count, who, sung, got)
					}
				}
			}
		}
	}
}

func emptiedMember(m impl.Member) impl.Member {
	return changedMember(m, func(m *impl.Member) {
		m.Sung = append([]int64{}, m.Sung...)
		for who, r := range m.Rows {
			m.Rows[who] = emptied(r)
		}
	})
}

func niledMember(m impl.Member) impl.Member {
	out := m
	out.Sung, out.Rows = append([]int64(nil), m.Sung...), nil
	for _, r := range m.Rows {
		out.Rows = append(out.Rows, niled(r))
	}
	return out
}

func memberCases() []impl.Member {
	out := rightMembers()
	for i, c := range membersWrong() {
		// They are many, and near to one another.
		if i%7 == 0 {
			out = append(out, c.member)
		}
	}
	return append(out, impl.Member{}, impl.Member{N: 1}, impl.Member{Id: 1, N: 2, Done: true})
}

// Promise 21: an empty list and nil are the same.
func TestEmptyAndNilMembers(t *testing.T) {
	for _, m := range memberCases() {
		for _, m := range []impl.Member{emptiedMember(m), niledMember(m)} {
			checkMemberOk(t, m)
			checkSay(t, m, "x")
			checkStep(t, m)
			checkVoice(t, m)
			for who := range int64(5) {
				checkDoubt(t, m, who)
				if who < int64(len(m.Rows)) {
					later := changed(m.Rows[who], func(r *impl.Row) { r.Ver++ })
					checkHeard(t, m, who, emptied(later))
					checkHeard(t, m, who, niled(later))
				}
			}
		}
	}
	// A Row that became the same one, but for nil, is not another one.
	for _, empty := range []func(r impl.Row) impl.Row{emptied, niled} {
		m := memberWith(0, 0, empty(gotRow(2, 0)), empty(gotRow(2, 0)))
		m.Rows[0].Suspects, m.Rows[0].Texts = empty(impl.Row{}).Suspects, empty(impl.Row{}).Texts
		if got := impl.Step(m); ownRow(got).Ver != 7 {
			t.Fatalf("Step of %s has Ver %d", toldMember(m), ownRow(got).Ver)
		}
	}
}

// roomyMember has marked room behind each list.
func roomyMember(m impl.Member, text string, mark int64) impl.Member {
	rows := []impl.Row{}
	for _, r := range m.Rows {
		rows = append(rows, roomyRow(r, text, mark))
	}
	m.Rows, m.Sung = roomyWith(rows, impl.Row{Ver: mark}), roomyWith(m.Sung, mark)
	return m
}

// wholeMember has all that lies in the lists and in the room behind them.
func wholeMember(m impl.Member) impl.Member {
	rows := []impl.Row{}
	for _, r := range whole(m.Rows) {
		rows = append(rows, wholeRow(r))
	}
	m.Rows, m.Sung = rows, whole(m.Sung)
	return m
}

// A memberAnswer is all that is answered to one Member.
type memberAnswer struct {
	members []impl.Member
	voice   []string
}

// memberAnswers asks each function in such a way that it may change something, and in such a way that it may not.
func memberAnswers(m impl.Member, text string, row impl.Row) memberAnswer {
	var out memberAnswer
	take := func(got impl.Member, ok bool) { out.members = append(out.members, got) }
	take(impl.NewMember(m.Id, m.N))
	take(impl.Say(m, text))
	take(impl.Say(m, text+strings.Repeat("x", 21)))
	for who := int64(-1); who <= 5; who++ {
		take(impl.Doubt(m, who))
		take(impl.Heard(m, who, row))
	}
	take(impl.Step(m), true)
	out.voice = impl.Voice(m)
	impl.MemberOk(m)
	return out
}

func (a memberAnswer) copied() memberAnswer {
	out := memberAnswer{voice: slices.Clone(a.voice)}
	for _, m := range a.members {
		out.members = append(out.members, copiedMember(m))
	}
	return out
}

func (a memberAnswer) isAs(b memberAnswer) bool {
	return slices.Equal(a.voice, b.voice) && slices.EqualFunc(a.members, b.members, alikeMember)
}

// laterRow is one that may be heard of any of m's Rows.
func laterRow(m impl.Member) impl.Row {
	return changed(midRow(max(1, min(5, m.N))), func(r *impl.Row) { r.Ver = most })
}

// Promise 21: arguments stay, and so does the spare room behind them.
func TestMemberArgumentsStay(t *testing.T) {
	for _, c := range memberCases() {
		m, row := roomyMember(c, "spare", spareMark), roomyRow(laterRow(c), "spare", spareMark)
		was, wasRow := wholeMember(m), wholeRow(row)
		first := memberAnswers(m, "new", row).copied()
		if !alikeMember(wholeMember(m), was) || !alikeRow(wholeRow(row), wasRow) {
			t.Fatalf("%s became %s, or %s became %s", toldMember(was), toldMember(wholeMember(m)), toldRow(wasRow), toldRow(wholeRow(row)))
		}
		// And what is answered hangs on nothing that lies behind the lists.
		if !memberAnswers(copiedMember(c), "new", laterRow(c)).isAs(first) {
			t.Fatalf("with room behind the lists the answers to %s are others", toldMember(c))
		}
		for _, mark := range []int64{0, 1, c.N, int64(len(c.Sung))} {
			if !memberAnswers(roomyMember(c, "", mark), "new", roomyRow(laterRow(c), "", mark)).isAs(first) {
				t.Fatalf("with %d behind the lists the answers to %s are others", mark, toldMember(c))
			}
		}
	}
}

func scribbleRow(r impl.Row) {
	for _, list := range [][]int64{r.Got, r.Suspects, r.Trim} {
		scribble(list)
	}
	texts := r.Texts[:cap(r.Texts)]
	for i := range texts {
		texts[i] = "scribbled"
	}
}

func scribbleMember(m impl.Member) {
	scribble(m.Sung)
	rows := m.Rows[:cap(m.Rows)]
	for i := range rows {
		scribbleRow(rows[i])
		rows[i] = impl.Row{Ver: -99}
	}
}

// Promise 21: writing over one answer, and the room behind its lists, changes no argument and no other answer.
func TestMemberAnswersAreNewMemory(t *testing.T) {
	for _, c := range memberCases() {
		m, row := copiedMember(c), laterRow(c)
		wasRow := copiedRow(row)
		earlier := memberAnswers(m, "new", row)
		want := earlier.copied()
		mine := memberAnswers(m, "new", row)
		for _, got := range mine.members {
			scribbleMember(got)
		}
		voice := mine.voice[:cap(mine.voice)]
		for i := range voice {
			voice[i] = "scribbled"
		}
		if !alikeMember(m, c) || !alikeRow(row, wasRow) {
			t.Fatalf("an answer shares memory with %s or %s", toldMember(c), toldRow(wasRow))
		}
		if !earlier.isAs(want) || !memberAnswers(m, "new", row).isAs(want) {
			t.Fatalf("an answer to %s shares memory with another one", toldMember(c))
		}
		// The other way: writing over the arguments changes no answer.
		scribbleMember(m)
		scribbleRow(row)
		if !earlier.isAs(want) {
			t.Fatalf("an argument shares memory with an answer to %s", toldMember(c))
		}
	}
}

// listsOf are all lists of numbers in a Member.
func listsOf(m *impl.Member) []*[]int64 {
	out := []*[]int64{&m.Sung}
	for who := range m.Rows {
		r := &m.Rows[who]
		out = append(out, &r.Got, &r.Suspects, &r.Trim)
	}
	return out
}

// checkListsApart puts something behind each list, and writes over each: no other one changes.
func checkListsApart(t *testing.T, m impl.Member) {
	t.Helper()
	was := copiedMember(m)
	lists, before := listsOf(&m), listsOf(&was)
	for i, list := range lists {
		*list = append(*list, int64(i))
	}
	for i, list := range lists {
		if !slices.Equal(*list, append(slices.Clone(*before[i]), int64(i))) {
			t.Fatalf("two lists of %s share memory: list %d is %v", toldMember(was), i, *list)
		}
	}
	for i, list := range lists {
		scribble(*list)
		for k, other := range lists[i+1:] {
			if slices.Contains(*other, -99) {
				t.Fatalf("lists %d and %d of %s share memory", i, i+1+k, toldMember(was))
			}
		}
	}
	for who := range m.Rows {
		m.Rows[who].Texts = append(m.Rows[who].Texts, fmt.Sprint("behind ", who))
	}
	for who, r := range m.Rows {
		if !slices.Equal(r.Texts, append(slices.Clone(was.Rows[who].Texts), fmt.Sprint("behind ", who))) {
			t.Fatalf("Texts of two Rows of %s share memory", toldMember(was))
		}
		for i := range r.Texts {
			r.Texts[i] = fmt.Sprint("mine ", who)
		}
	}
	for who, r := range m.Rows {
		if slices.ContainsFunc(r.Texts, func(s string) bool { return s != fmt.Sprint("mine ", who) }) {
			t.Fatalf("Texts of two Rows of %s share memory", toldMember(was))
		}
	}
}

// Promise 21: no two lists of one answer share memory; a Trim that is taken from another Row is one of its own.
func TestMemberListsAreApart(t *testing.T) {
	for _, c := range memberCases() {
		for _, m := range memberAnswers(c, "new", laterRow(c)).members {
			checkListsApart(t, m)
		}
	}
	lot := rand.New(rand.NewSource(177))
	taken := 0
	for range 3000 {
		m := nearMember(lot)
		got := impl.Step(m)
		if ownRow(got).Ready && !ownRow(m).Ready {
			taken++
		}
		checkListsApart(t, got)
	}
	if taken < 100 {
		t.Fatalf("only %d took a Trim", taken)
	}
}

// Lists of one Member may share memory with one another, and with a row that is heard: the answers are as those of lists apart.
func TestMembersWhoseListsShareMemory(t *testing.T) {
	for n := int64(1); n <= lastRow; n++ {
		for id := range n {
			base := append(repeated(1, int(n)), 5, 6, 7)
			was := slices.Clone(base)
			texts := []string{"t", "u"}
			row := impl.Row{Ver: 3, Texts: texts[:1], Got: base[:n], Wedged: true, Ready: true, By: 0, Trim: base[:n]}
			m := impl.Member{Id: id, N: n, Sung: base[:0]}
			for range n {
				m.Rows = append(m.Rows, row)
			}
			apart := copiedMember(m)
			later := row
			later.Ver = 4
			got := memberAnswers(m, "new", later)
			if !slices.Equal(base, was) || !slices.Equal(texts, []string{"t", "u"}) {
				t.Fatalf("%v became %v, or the Texts %q", was, base, texts)
			}
			if !got.isAs(memberAnswers(apart, "new", copiedRow(later))) {
				t.Fatalf("of %d the answers are others where lists share memory", n)
			}
			for _, m := range got.members {
				checkListsApart(t, m)
			}
			checkMember(t, m)
			// A change where all lists are one: the Row that grows is its own alone.
			open := copiedMember(m)
			for who := range open.Rows {
				open.Rows[who] = impl.Row{Ver: 3, Texts: texts[:1], Got: base[:n]}
			}
			open.Sung = base[:0]
			said, ok := checkSay(t, open, "new")
			if !ok || !slices.Equal(base, was) || texts[1] != "u" {
				t.Fatalf("Say wrote into its argument: %v, %q", base, texts)
			}
			checkListsApart(t, said)
			checkStep(t, open)
		}
	}
}

// Promise 21: no text of an answer shares memory with an argument, or with another text.
func TestMemberTextsAreNewMemory(t *testing.T) {
	bytes := []byte("abcdefghijklmnopqrst")
	m := impl.Member{Id: 1, N: 3, Sung: firstNumbers(4)}
	for who := range int64(3) {
		r := impl.Row{Got: []int64{2, 2, 2}}
		for i := range int64(2) {
			at := 4*who + 2*i
			r.Texts = append(r.Texts, written(bytes)[at:at+2])
		}
		m.Rows = append(m.Rows, r)
	}
	row := impl.Row{Ver: 5, Texts: []string{written(bytes)[12:15], written(bytes)[12:15]}, Got: []int64{0, 0, 0}}
	text := written(bytes)[15:18]
	got := memberAnswers(m, text, row)
	var texts []string
	for _, m := range got.members {
		for _, r := range m.Rows {
			texts = append(texts, r.Texts...)
		}
	}
	texts = append(texts, got.voice...)
	if len(got.voice) != 4 || len(texts) < 40 {
		t.Fatalf("only these are answered: %q", texts)
	}
	for i, one := range texts {
		if sharedBytes(one, written(bytes)) {
			t.Fatalf("%q shares memory with an argument", one)
		}
		for _, other := range texts[i+1:] {
			if sharedBytes(one, other) {
				t.Fatalf("%q and %q share memory", one, other)
			}
		}
	}
	want := got.copied()
	for i, s := range want.voice {
		want.voice[i] = strings.Clone(s)
	}
	copy(bytes, strings.Repeat("#", len(bytes)))
	if !got.isAs(want) || strings.Contains(fmt.Sprint(got), "#") {
		t.Fatalf("writing over an argument changed %v", got)
	}
}

// Promise 21: very long lists and texts are refused as any others.
func TestVeryLongMembers(t *testing.T) {
	base := memberWith(1, 2, gotRows(3, 2)...)
	ended := endedMember(3, 1)
	for _, length := range []int{61, 62, 256, 257, 65536 + 2, 1000000} {
		for _, base := range []impl.Member{base, ended} {
			long := []impl.Member{base, base, base, base}
			long[0].Sung = firstNumbers(int64(length))
			long[1].Sung = repeated(0, length)
			long[2].Rows = slices.Repeat(base.Rows[:1], length)
			long[3].Rows = slices.Clone(base.Rows)
			long[3].Rows[0].Texts = repeatedText("", length)
			for _, m := range long {
				checkNoMember(t, "very long", m)
				m.N = int64(length)
				checkNoMember(t, "very long, and N, too", m)
			}
		}
		row := impl.Row{Ver: 9, Got: repeated(0, length)}
		if got, ok := impl.Heard(base, 0, row); ok || !alikeMember(got, base) {
			t.Fatalf("a Row with %d numbers is heard", length)
		}
		row = impl.Row{Ver: 9, Got: repeated(0, 3), Texts: repeatedText("", length)}
		if got, ok := impl.Heard(base, 0, row); ok || !alikeMember(got, base) {
			t.Fatalf("a Row with %d Texts is heard", length)
		}
	}
}

// The same call has the same answer, however often it is asked.
func TestMemberAnswersAgain(t *testing.T) {
	for _, m := range memberCases() {
		first := memberAnswers(m, "new", laterRow(m))
		for range 3 {
			if !memberAnswers(m, "new", laterRow(m)).isAs(first) {
				t.Fatalf("the answers to %s are others", toldMember(m))
			}
		}
	}
}
