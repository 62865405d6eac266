package tests

import (
	"math/rand"
	"slices"
	"testing"

	"loop.example/g00266/impl"
)

// A stepCase is a Member, and what a Step makes of it: its own Row with the change (and a new Ver where there is one), what it sang, and whether it is Done.
type stepCase struct {
	what   string
	member impl.Member
	change func(own *impl.Row)
	sung   []int64
	done   bool
}

func stays(own *impl.Row) {}

func getsWedged(suspects ...int64) func(own *impl.Row) {
	return func(own *impl.Row) { own.Wedged, own.Suspects = true, suspects }
}

func getsGot(got ...int64) func(own *impl.Row) {
	return func(own *impl.Row) { own.Got = got }
}

func getsReady(by int64, trim ...int64) func(own *impl.Row) {
	return func(own *impl.Row) { own.Wedged, own.Ready, own.By, own.Trim = true, true, by, trim }
}

func both(first, second func(own *impl.Row)) func(own *impl.Row) {
	return func(own *impl.Row) {
		first(own)
		second(own)
	}
}

func checkStepCases(t *testing.T, cases []stepCase) {
	t.Helper()
	for _, c := range cases {
		if !impl.MemberOk(c.member) {
			t.Fatalf("%s: it is no right Member: %s", c.what, toldMember(c.member))
		}
		want := changedOwn(c.member, c.change)
		if !alikeRow(ownRow(want), ownRow(c.member)) {
			want.Rows[want.Id].Ver++
		}
		want.Sung, want.Done = c.sung, c.done
		if got := checkStep(t, c.member); !alikeMember(got, want) {
			t.Errorf("%s: Step is\n%s, not\n%s", c.what, toldMember(got), toldMember(want))
		}
	}
}

// In all of these the last one is not Wedged, so that nobody ends; and nobody has got anything.
func TestStepTakesDoubts(t *testing.T) {
	none := gotRow(5, 0)
	heard := func(own, first, third impl.Row) impl.Member { return memberWith(1, 0, first, own, third, none, none) }
	checkStepCases(t, []stepCase{
		{"nobody doubts", heard(none, none, none), stays, nil, false},
		{"one ahead is Wedged", heard(none, wedgedRow(none), none), getsWedged(), nil, false},
		{"one behind is Wedged", heard(none, none, wedgedRow(none)), getsWedged(), nil, false},
		{"one has Suspects and is not Wedged", heard(none, none, changed(none, func(r *impl.Row) { r.Suspects = []int64{3} })), getsWedged(3), nil, false},
		{"one is Wedged and has Suspects", heard(none, none, wedgedRow(none, 3)), getsWedged(3), nil, false},
		{"one doubts this one alone", heard(none, none, wedgedRow(none, 1)), getsWedged(), nil, false},
		{"one doubts this one without being Wedged", heard(none, none, changed(none, func(r *impl.Row) { r.Suspects = []int64{1} })), getsWedged(), nil, false},
		{"one doubts this one, too", heard(none, none, wedgedRow(none, 0, 1, 4)), getsWedged(0, 4), nil, false},
		{"one doubts itself", heard(none, none, wedgedRow(none, 2)), getsWedged(2), nil, false},
		{"one doubts all", heard(none, none, wedgedRow(none, 0, 1, 2, 3, 4)), getsWedged(0, 2, 3, 4), nil, false},
		{"two doubt", heard(none, wedgedRow(none, 4), wedgedRow(none, 3)), getsWedged(3, 4), nil, false},
		{"two doubt the same one", heard(none, wedgedRow(none, 4), wedgedRow(none, 3, 4)), getsWedged(3, 4), nil, false},
		{"two doubt one another", heard(none, wedgedRow(none, 2), wedgedRow(none, 0)), getsWedged(0, 2), nil, false},
		// Both are left when the Step begins, so the doubts of the doubted one come, too; whichever stands ahead.
		{"one doubts one that doubts", heard(none, wedgedRow(none, 2), wedgedRow(none, 3)), getsWedged(2, 3), nil, false},
		{"one is doubted by one that it stands ahead of", heard(none, wedgedRow(none, 4), wedgedRow(none, 0)), getsWedged(0, 4), nil, false},
		{"it doubts one that doubts", heard(wedgedRow(none, 2), none, wedgedRow(none, 3)), stays, nil, false},
		{"it doubts one that is Wedged, and is not itself", heard(changed(none, func(r *impl.Row) { r.Suspects = []int64{2} }), none, wedgedRow(none, 3)), stays, nil, false},
		{"it has doubts and is not Wedged", heard(changed(none, func(r *impl.Row) { r.Suspects = []int64{2} }), none, none), stays, nil, false},
		{"it has doubts, and others come", heard(wedgedRow(none, 3), wedgedRow(none, 2), none), getsWedged(2, 3), nil, false},
		{"it has all doubts already", heard(wedgedRow(none, 3, 4), wedgedRow(none, 3), wedgedRow(none, 4)), stays, nil, false},
		{"it has all doubts already and is not Wedged", heard(changed(none, func(r *impl.Row) { r.Suspects = []int64{3} }), wedgedRow(none, 3), none), getsWedged(3), nil, false},
		{"it is Wedged alone", heard(wedgedRow(none), none, none), stays, nil, false},
		{"one that is Ready with another By is Wedged, too", heard(none, readyRow(none, 3, 0, 0, 0, 0, 0), none), getsWedged(), nil, false},
	})
}

// Each choice of Suspects in each one's Row, for groups of three.
func TestStepTakesAllDoubts(t *testing.T) {
	for id := range int64(3) {
		for _, rows := range allLists(3, partsOf(3)...) {
			for _, wedged := range allLists(3, false, true) {
				m := memberWith(id, 0, gotRows(3, 1)...)
				for who := range m.Rows {
					m.Rows[who].Suspects, m.Rows[who].Wedged = slices.Clone(rows[who]), wedged[who]
				}
				if checkMemberOk(t, m) != !slices.Contains(rows[id], id) {
					t.Fatalf("MemberOk(%s) is %v", toldMember(m), impl.MemberOk(m))
				}
				got := checkStep(t, m)
				if !impl.MemberOk(m) {
					continue
				}
				is, all := wedged[id], slices.Clone(rows[id])
				for who, list := range rows {
					if int64(who) != id && !slices.Contains(rows[id], int64(who)) {
						is = is || wedged[who] || len(list) > 0
						all = append(all, list...)
					}
				}
				all = slices.DeleteFunc(slices.Compact(slices.Sorted(slices.Values(all))), func(who int64) bool { return who == id })
				if own := ownRow(got); own.Wedged != is || !slices.Equal(own.Suspects, all) {
					t.Fatalf("Step of %s is %s", toldMember(m), toldMember(got))
				}
			}
		}
	}
}

// Nobody's Row here has more than its own Got and its Texts, so that nothing is sung.
func TestStepTakesCounts(t *testing.T) {
	said := func(counts ...int64) impl.Member {
		m := impl.Member{Id: 1, N: int64(len(counts))}
		for who, count := range counts {
			m.Rows = append(m.Rows, saidRow(int64(who), count, repeated(0, len(counts))...))
		}
		m.Rows[1].Got[1] = counts[1]
		return m
	}
	with := func(m impl.Member, change func(own *impl.Row)) impl.Member { return changedOwn(m, change) }
	checkStepCases(t, []stepCase{
		{"no Texts", said(0, 0, 0), stays, nil, false},
		{"one Text", said(0, 0, 1), getsGot(0, 0, 1), nil, false},
		{"its own Texts are counted already", said(0, 5, 0), stays, nil, false},
		{"Texts of all", said(3, 2, 12), getsGot(3, 2, 12), nil, false},
		{"12 Texts of each", said(12, 12, 12, 12, 12), getsGot(12, 12, 12, 12, 12), nil, false},
		{"some are counted already", with(said(3, 2, 4), func(own *impl.Row) { own.Got = []int64{3, 2, 1} }), getsGot(3, 2, 4), nil, false},
		{"all are counted already", with(said(3, 2, 4), func(own *impl.Row) { own.Got = []int64{3, 2, 4} }), stays, nil, false},
		// A later Row may have fewer Texts than there were: what it has got it has got.
		{"fewer than it has got", with(said(3, 2, 4), func(own *impl.Row) { own.Got = []int64{5, 2, 12} }), stays, nil, false},
		{"fewer of one, more of another one", with(said(3, 2, 4), func(own *impl.Row) { own.Got = []int64{5, 2, 2} }), getsGot(5, 2, 4), nil, false},
		{"none where it has got some", with(said(0, 0, 0), func(own *impl.Row) { own.Got = []int64{1, 0, 1} }), stays, nil, false},
		{"a Suspect's, too, where it is not Wedged", with(said(3, 2, 4), func(own *impl.Row) { own.Suspects = []int64{0} }), getsGot(3, 2, 4), nil, false},
		{"it is Wedged", with(said(3, 2, 4), func(own *impl.Row) { own.Wedged = true }), stays, nil, false},
		{"it is Wedged by this Step", changedMember(said(3, 2, 4), func(m *impl.Member) { m.Rows[2].Wedged = true }), getsWedged(), nil, false},
	})
}

// The Row that was heard later has fewer Texts: the count stays, and the Member's Row Follows what it was.
func TestFewerTextsHeardLater(t *testing.T) {
	for n := int64(2); n <= lastRow; n++ {
		for before := range int64(mostSaid + 1) {
			for behind := range int64(mostSaid + 1) {
				m := newMember(t, n-1, n)
				first := saidRow(0, before, repeated(before, int(n))...)
				first.Ver = 4
				m, _ = checkHeard(t, m, 0, first)
				m = checkStep(t, m)
				second := saidRow(0, behind, repeated(behind, int(n))...)
				second.Ver = 5
				m, ok := checkHeard(t, m, 0, second)
				m = checkStep(t, m)
				if got := ownRow(m).Got[0]; !ok || got != max(before, behind) {
					t.Fatalf("of %d Texts and then %d it has got %d", before, behind, got)
				}
			}
		}
	}
}

// upTo has all seqs below stop in all Rows, and lacks that one in the Row of lacking; of all others it has more.
func upTo(n, id, lacking, stop int64) impl.Member {
	m := memberWith(id, 0, gotRows(n, stop/n+3)...)
	sender, index := stop%n, stop/n
	m.Rows[lacking].Got[sender] = index
	if lacking == id {
		m.Rows[sender].Texts = m.Rows[sender].Texts[:index]
	}
	return m
}

func TestStepSings(t *testing.T) {
	for n := int64(1); n <= lastRow; n++ {
		for id := range n {
			for lacking := range n {
				for stop := range 9 * n {
					m := upTo(n, id, lacking, stop)
					for _, sung := range []int64{0, 1, stop - 1, stop, stop + 1, mostSung} {
						if sung < 0 {
							continue
						}
						from := changedMember(m, func(m *impl.Member) { m.Sung = firstNumbers(sung) })
						got := checkStep(t, from)
						want := max(stop, sung)
						if sung > stop {
							// Who sang beyond the gap goes on from there.
							want = int64(len(stepOf(from).Sung))
						}
						if int64(len(got.Sung)) != want || got.Done || !slices.Equal(got.Sung, firstNumbers(want)) {
							t.Fatalf("%d of %d lacks %d: %d that sang %d sang %v", lacking, n, stop, id, sung, got.Sung)
						}
						// Nothing of its Row is changed by singing alone.
						if ownRow(got).Ver-ownRow(from).Ver > 1 {
							t.Fatalf("Ver %d became %d", ownRow(from).Ver, ownRow(got).Ver)
						}
						wedge := changedOwn(from, func(own *impl.Row) { own.Wedged = true })
						if n > 1 && len(checkStep(t, wedge).Sung) != int(sung) {
							t.Fatalf("one that is Wedged sang %v", impl.Step(wedge).Sung)
						}
					}
				}
			}
		}
	}
}

// A Suspect's Row is asked as any other one, where the Member is not Wedged; and so is one that is Wedged and doubted.
func TestStepSingsWhatAllHave(t *testing.T) {
	doubt := func(m impl.Member) impl.Member {
		return changedOwn(m, func(own *impl.Row) { own.Suspects = []int64{2} })
	}
	all := doubt(memberWith(0, 0, gotRow(3, 2), gotRow(3, 2), gotRow(3, 2)))
	lacks := doubt(memberWith(0, 0, gotRow(3, 2), gotRow(3, 2), gotRow(3, 1)))
	lacks.Rows[2].Texts = all.Rows[2].Texts
	ended := changedMember(all, func(m *impl.Member) { m.Rows[2] = readyRow(m.Rows[2], 2, 0, 0, 0) })
	checkStepCases(t, []stepCase{
		{"a Suspect has all", all, stays, firstNumbers(6), false},
		{"a Suspect lacks some", lacks, stays, firstNumbers(3), false},
		{"a Suspect is Wedged and Ready", ended, stays, firstNumbers(6), false},
		{"nothing new", changedMember(all, func(m *impl.Member) { m.Sung = firstNumbers(6) }), stays, firstNumbers(6), false},
	})
}

// All 60 that can be are sung in one Step; and no further one.
func TestStepSingsSixty(t *testing.T) {
	for id := range int64(5) {
		full := fullMember(5, id)
		for _, sung := range []int64{0, 1, 30, 59, 60} {
			m := changedMember(full, func(m *impl.Member) { m.Sung = firstNumbers(sung) })
			got := checkStep(t, m)
			if !slices.Equal(got.Sung, firstNumbers(60)) || len(checkVoice(t, got)) != 60 || ownRow(got).Ver != ownRow(m).Ver {
				t.Fatalf("it sang %v", got.Sung)
			}
		}
	}
	for n := int64(1); n <= 4; n++ {
		got := checkStep(t, changedMember(fullMember(n, 0), func(m *impl.Member) { m.Sung = nil }))
		if !slices.Equal(got.Sung, firstNumbers(12*n)) {
			t.Fatalf("of %d it sang %v", n, got.Sung)
		}
		// A right Member may have sung more than can be: it stays so.
		if got := checkStep(t, fullMember(n, 0)); len(got.Sung) != 60 || len(checkVoice(t, got)) > 0 {
			t.Fatalf("of %d it sang %v", n, got.Sung)
		}
	}
}

// suspecting has all Wedged, with these Suspects each.
func suspecting(m impl.Member, suspects ...int64) impl.Member {
	return changedMember(m, func(m *impl.Member) {
		for who := range m.Rows {
			m.Rows[who].Wedged, m.Rows[who].Suspects = true, slices.Clone(suspects)
		}
	})
}

func TestStepEndsByTheFirst(t *testing.T) {
	ragged := memberWith(0, 1, impl.Row{Got: []int64{3, 2, 1}}, impl.Row{Got: []int64{2, 2, 2}}, impl.Row{Got: []int64{1, 3, 3}})
	all := suspecting(ragged)
	lost := suspecting(ragged, 2)
	behind := suspecting(changedMember(ragged, func(m *impl.Member) { m.Id, m.Rows[1].Texts = 1, []string{"p", "q"} }), 0)
	row := func(m impl.Member, who int64, change func(r *impl.Row)) impl.Member {
		return changedMember(m, func(m *impl.Member) { change(&m.Rows[who]) })
	}
	ends := func(by int64, trim ...int64) func(r *impl.Row) {
		return func(r *impl.Row) { *r = readyRow(*r, by, trim...) }
	}
	one := []int64{0}
	checkStepCases(t, []stepCase{
		{"the Meet of all", all, getsReady(0, 1, 2, 1), one, false},
		{"the Meet of those left", lost, getsReady(0, 2, 2, 1), one, false},
		{"the first one is doubted", behind, getsReady(1, 1, 2, 2), one, false},
		{"one is not Wedged", row(all, 1, func(r *impl.Row) { r.Wedged = false }), stays, one, false},
		{"the last one is not Wedged", row(all, 2, func(r *impl.Row) { r.Wedged = false }), stays, one, false},
		{"a Suspect is not Wedged", row(lost, 2, func(r *impl.Row) { r.Wedged = false }), getsReady(0, 2, 2, 1), one, false},
		{"one does not doubt its Suspect", row(lost, 1, func(r *impl.Row) { r.Suspects = nil }), stays, one, false},
		{"one doubts another one", row(lost, 1, func(r *impl.Row) { r.Suspects = []int64{0} }), stays, one, false},
		{"one doubts it and its Suspect", row(lost, 1, func(r *impl.Row) { r.Suspects = []int64{0, 2} }), getsReady(0, 2, 2, 1), one, false},
		{"a Suspect doubts nobody", row(lost, 2, func(r *impl.Row) { r.Suspects = nil }), getsReady(0, 2, 2, 1), one, false},
		{"it has doubts, though it is not Wedged", row(lost, 0, func(r *impl.Row) { r.Wedged = false }), both(getsWedged(2), getsReady(0, 2, 2, 1)), one, false},
		// One that is Ready has an end that may have been told aloud: it is kept.
		{"one is Ready", row(all, 1, ends(1, 0, 1, 0)), getsReady(0, 0, 1, 0), one, false},
		{"two are Ready, the last one with the greater By", row(row(all, 1, ends(0, 5, 5, 5)), 2, ends(2, 0, 1, 0)), getsReady(0, 0, 1, 0), one, false},
		{"two are Ready, the first one with the greater By", row(row(all, 1, ends(2, 5, 5, 5)), 2, ends(1, 0, 1, 0)), getsReady(0, 5, 5, 5), one, false},
		{"two are Ready with one By and other Trims", row(row(all, 1, ends(2, 5, 5, 5)), 2, ends(2, 0, 1, 0)), getsReady(0, 5, 5, 5), one, false},
		{"one is Ready with By 0, which is itself", row(all, 2, ends(0, 3, 1, 4)), getsReady(0, 3, 1, 4), one, false},
		{"a Suspect is Ready", row(lost, 2, ends(2, 9, 9, 9)), getsReady(0, 2, 2, 1), one, false},
		{"a Suspect has the greatest By", row(row(lost, 2, ends(2, 9, 9, 9)), 1, ends(1, 1, 1, 1)), getsReady(0, 1, 1, 1), one, false},
		{"a Trim beyond all Got", row(all, 1, ends(1, 12, 12, 12)), getsReady(0, 12, 12, 12), one, false},
		// Its own end is one of these.
		{"its own By is less", row(behind, 1, ends(0, 4, 0, 4)), getsReady(1, 4, 0, 4), one, false},
		{"its own By is less, and another one's is greater", row(row(behind, 1, ends(0, 4, 0, 4)), 2, ends(2, 3, 3, 3)), getsReady(1, 3, 3, 3), one, false},
		{"its own By is less, and another one's is alike", row(row(behind, 1, ends(0, 4, 0, 4)), 2, ends(0, 3, 3, 3)), getsReady(1, 4, 0, 4), one, false},
		{"its own By is its Id", row(behind, 1, ends(1, 4, 0, 4)), stays, one, false},
		{"its own By is its Id, and another one's is greater", row(row(behind, 1, ends(1, 4, 0, 4)), 2, ends(2, 3, 3, 3)), stays, one, false},
		{"its own By is greater", row(behind, 1, ends(2, 4, 0, 4)), stays, one, false},
		{"its own By is less, but one is not Wedged", row(row(behind, 1, ends(0, 4, 0, 4)), 2, func(r *impl.Row) { r.Wedged, r.Suspects = false, nil }), stays, one, false},
	})
}

// For each n and each choice of Suspects: it is more than half of all who must be left.
func TestStepNeedsMoreThanHalf(t *testing.T) {
	seen := map[bool]int{}
	for n := int64(1); n <= lastRow; n++ {
		for _, suspects := range partsOf(n) {
			left := slices.DeleteFunc(firstNumbers(n), func(who int64) bool { return slices.Contains(suspects, who) })
			if len(left) == 0 {
				continue
			}
			most := 2*len(left) > int(n)
			seen[most]++
			// The first one of those left.
			m := suspecting(memberWith(left[0], 0, gotRows(n, 2)...), suspects...)
			got := checkStep(t, m)
			if own := ownRow(got); own.Ready != most || most && (own.By != left[0] || !slices.Equal(own.Trim, repeated(2, int(n)))) {
				t.Fatalf("%v of %d are left: %s", left, n, toldMember(got))
			}
			if got.Done != (n == 1 || len(left) == 1 && most) {
				t.Fatalf("%v of %d are left, and Done is %v", left, n, got.Done)
			}
			// All are Ready: each of those left is Done where they are enough.
			for _, id := range left {
				all := suspecting(memberWith(id, 0, gotRows(n, 2)...), suspects...)
				for who := range all.Rows {
					all.Rows[who] = readyRow(all.Rows[who], left[0], repeated(1, int(n))...)
				}
				got := checkStep(t, all)
				if got.Done != most || most && !slices.Equal(got.Sung, firstNumbers(n)) || !most && len(got.Sung) > 0 || ownRow(got).Ver != 7 {
					t.Fatalf("%v of %d are left and Ready: %s", left, n, toldMember(got))
				}
			}
		}
	}
	if seen[true] < 20 || seen[false] < 10 {
		t.Fatalf("only these are told apart: %v", seen)
	}
}

func TestStepEndsAsTheFirstOne(t *testing.T) {
	plain := suspecting(memberWith(2, 1, gotRow(4, 2), gotRow(4, 2), gotRow(4, 2), gotRow(4, 2)))
	lost := suspecting(plain, 0)
	row := func(m impl.Member, who int64, change func(r *impl.Row)) impl.Member {
		return changedMember(m, func(m *impl.Member) { change(&m.Rows[who]) })
	}
	ends := func(by int64, trim ...int64) func(r *impl.Row) {
		return func(r *impl.Row) { *r = readyRow(*r, by, trim...) }
	}
	trim := []int64{1, 2, 0, 3}
	takes := func(by int64) func(own *impl.Row) { return getsReady(by, trim...) }
	one := []int64{0}
	checkStepCases(t, []stepCase{
		{"nobody is Ready", plain, stays, one, false},
		{"the first one is", row(plain, 0, ends(0, trim...)), takes(0), one, false},
		{"the second one is, and the first one is not", row(plain, 1, ends(1, trim...)), stays, one, false},
		{"the second one is as the first one would be", row(plain, 1, ends(0, trim...)), stays, one, false},
		{"the first one is, with another By", row(plain, 0, ends(1, trim...)), stays, one, false},
		{"the first one is, with this one's By", row(plain, 0, ends(2, trim...)), stays, one, false},
		{"the first one doubts this one", row(row(plain, 0, ends(0, trim...)), 0, func(r *impl.Row) { r.Suspects = []int64{2} }), stays, one, false},
		{"the first one doubts this one and another one", row(row(plain, 0, ends(0, trim...)), 0, func(r *impl.Row) { r.Suspects = []int64{2, 3} }), getsWedged(3), one, false},
		{"the first one doubts another one", row(row(plain, 0, ends(0, trim...)), 0, func(r *impl.Row) { r.Suspects = []int64{3} }), both(getsWedged(3), takes(0)), one, false},
		{"another one doubts this one", row(row(plain, 0, ends(0, trim...)), 1, func(r *impl.Row) { r.Suspects = []int64{2} }), takes(0), one, false},
		// Who is first is told by those left behind the doubts of this Step.
		{"the first one doubts itself", row(row(plain, 0, ends(0, trim...)), 0, func(r *impl.Row) { r.Suspects = []int64{0} }), getsWedged(0), one, false},
		{"the first one is doubted, the next one is Ready", row(row(lost, 0, ends(0, 9, 9, 9, 9)), 1, ends(1, trim...)), takes(1), one, false},
		{"the first one is doubted, the next one is not Ready", row(lost, 0, ends(0, trim...)), stays, one, false},
		{"the next one has the By of the doubted one", row(lost, 1, ends(0, trim...)), stays, one, false},
		{"its own By is less", row(row(lost, 2, ends(0, 9, 9, 9, 9)), 1, ends(1, trim...)), takes(1), one, false},
		{"its own By is that one's", row(row(lost, 2, ends(1, 9, 9, 9, 9)), 1, ends(1, trim...)), stays, one, false},
		{"its own By is greater", row(row(lost, 2, ends(2, 9, 9, 9, 9)), 1, ends(1, trim...)), stays, one, false},
		{"its own By is the greatest", row(row(lost, 2, ends(3, 9, 9, 9, 9)), 1, ends(1, trim...)), stays, one, false},
		{"its own is By 0, as the first one's is", row(row(plain, 2, ends(0, 9, 9, 9, 9)), 0, ends(0, trim...)), stays, one, false},
		// The document asks for more than half only of the first one.
		{"just half are left", row(suspecting(plain, 0, 3), 1, ends(1, trim...)), takes(1), one, false},
		{"it is not Wedged, but the first one is", row(row(row(plain, 0, ends(0, trim...)), 2, func(r *impl.Row) { r.Wedged = false }), 1, func(r *impl.Row) { r.Wedged = false }), both(getsWedged(), takes(0)), one, false},
	})
}

func TestStepIsDone(t *testing.T) {
	trim := []int64{2, 0, 1}
	base := suspecting(memberWith(1, 0, gotRow(3, 2), gotRow(3, 2), gotRow(3, 2)))
	for who := range base.Rows {
		base.Rows[who] = readyRow(base.Rows[who], 0, trim...)
	}
	lost := suspecting(base, 2)
	row := func(m impl.Member, who int64, change func(r *impl.Row)) impl.Member {
		return changedMember(m, func(m *impl.Member) { change(&m.Rows[who]) })
	}
	sang := func(m impl.Member, count int64) impl.Member {
		return changedMember(m, func(m *impl.Member) { m.Sung = firstNumbers(count) })
	}
	trimmed := func(m impl.Member, trim ...int64) impl.Member {
		return changedMember(m, func(m *impl.Member) {
			for who := range m.Rows {
				m.Rows[who].Trim = slices.Clone(trim)
			}
		})
	}
	checkStepCases(t, []stepCase{
		// Of three, the Trim 2 0 1 has the seqs 0, 2 and 3.
		{"all are Ready", base, stays, []int64{0, 2, 3}, true},
		{"the first seq is sung", sang(base, 1), stays, []int64{0, 2, 3}, true},
		{"one is sung that is not in the Trim", sang(base, 2), stays, []int64{0, 1, 2, 3}, true},
		{"nothing is left to sing", sang(base, 4), stays, []int64{0, 1, 2, 3}, true},
		{"more is sung than the Trim has", sang(base, 7), stays, firstNumbers(7), true},
		{"60 are sung", sang(base, 60), stays, firstNumbers(60), true},
		{"an empty Trim", trimmed(base, 0, 0, 0), stays, nil, true},
		{"an empty Trim, and some are sung", sang(trimmed(base, 0, 0, 0), 2), stays, []int64{0, 1}, true},
		{"a Trim without a gap", trimmed(base, 2, 2, 1), stays, []int64{0, 1, 2, 3, 4}, true},
		{"the greatest Trim", trimmed(base, 12, 12, 12), stays, firstNumbers(36), true},
		{"the greatest Trim of one alone", trimmed(base, 0, 0, 12), stays, []int64{2, 5, 8, 11, 14, 17, 20, 23, 26, 29, 32, 35}, true},
		{"one is not left", lost, stays, []int64{0, 2, 3}, true},
		{"one that is not left is not Ready", row(lost, 2, func(r *impl.Row) { *r = unready(*r) }), stays, []int64{0, 2, 3}, true},
		{"one that is not left has another By", row(lost, 2, func(r *impl.Row) { r.By = 2 }), stays, []int64{0, 2, 3}, true},
		{"one that is not left has another Trim", row(lost, 2, func(r *impl.Row) { r.Trim = []int64{1, 1, 1} }), stays, []int64{0, 2, 3}, true},
		{"one that is not left doubts it", row(lost, 2, func(r *impl.Row) { r.Suspects = []int64{1} }), stays, []int64{0, 2, 3}, true},
		{"one is not Ready", row(base, 2, func(r *impl.Row) { *r = unready(*r) }), stays, nil, false},
		{"one has another By", row(base, 2, func(r *impl.Row) { r.By = 1 }), stays, nil, false},
		{"the first one has another By", row(base, 0, func(r *impl.Row) { r.By = 2 }), stays, nil, false},
		{"one has another Trim", row(base, 2, func(r *impl.Row) { r.Trim = []int64{2, 0, 2} }), stays, nil, false},
		{"the first one has another Trim", row(base, 0, func(r *impl.Row) { r.Trim = []int64{1, 0, 1} }), stays, nil, false},
		{"one doubts it", row(base, 2, func(r *impl.Row) { r.Suspects = []int64{1} }), stays, nil, false},
		{"the first one doubts it", row(base, 0, func(r *impl.Row) { r.Suspects = []int64{1} }), stays, nil, false},
		{"it has another By", row(base, 1, func(r *impl.Row) { r.By = 1 }), stays, nil, false},
		// The other doubt comes, and those two that are left are still enough.
		{"one doubts another one", row(base, 0, func(r *impl.Row) { r.Suspects = []int64{2} }), getsWedged(2), []int64{0, 2, 3}, true},
		{"one doubts itself", row(base, 2, func(r *impl.Row) { r.Suspects = []int64{2} }), getsWedged(2), []int64{0, 2, 3}, true},
	})
}

// Several parts in one Step, and Ver is but 1 more.
func TestStepPartsInTheirOrder(t *testing.T) {
	// Texts come, and are sung at once.
	fresh := memberWith(0, 0, gotRow(2, 1), gotRow(2, 1))
	fresh.Rows[0].Got = []int64{1, 0}
	// The doubt of another one comes: what it would have got and sung is left.
	caught := changedMember(fresh, func(m *impl.Member) { m.Rows[1].Wedged = true })
	// A doubt makes it the first of those left; all is as it must be, so it is Ready in the same Step, and in this group Done, too.
	lead := memberWith(1, 0, gotRow(3, 2), gotRow(3, 2), gotRow(3, 2))
	lead.Rows[2] = wedgedRow(lead.Rows[2], 0)
	// The other one left is Ready with the By that this one comes to.
	ended := changedMember(lead, func(m *impl.Member) { m.Rows[2] = readyRow(m.Rows[2], 1, 1, 0, 1) })
	// One that is not the first hears of a doubt and of the end at once.
	last := memberWith(2, 1, gotRow(3, 2), readyRow(wedgedRow(gotRow(3, 2), 0), 1, 1, 1, 1), gotRow(3, 2))
	// It comes to doubt the first one, so it asks the next one.
	next := memberWith(3, 0, readyRow(gotRow(4, 2), 0, 0, 0, 0, 0), readyRow(wedgedRow(gotRow(4, 2), 0), 1, 1, 0, 0, 0), wedgedRow(gotRow(4, 2), 0), gotRow(4, 2))
	// What it would have got does not come into the Meet.
	short := memberWith(0, 0, gotRow(2, 3), wedgedRow(gotRow(2, 3)))
	short.Rows[0].Got = []int64{3, 1}
	checkStepCases(t, []stepCase{
		{"Texts come and are sung", fresh, getsGot(1, 1), []int64{0, 1}, false},
		{"a doubt comes ahead of Texts, and it is the first", caught, both(getsWedged(), getsReady(0, 1, 0)), nil, false},
		{"a doubt makes it the first", lead, both(getsWedged(0), getsReady(1, 2, 2, 2)), nil, false},
		{"a doubt makes it the first, and all have one end", ended, both(getsWedged(0), getsReady(1, 1, 0, 1)), []int64{0, 2}, true},
		{"a doubt and an end are heard at once", last, both(getsWedged(0), getsReady(1, 1, 1, 1)), []int64{0, 1, 2}, true},
		{"a doubt tells who is first", next, both(getsWedged(0), getsReady(1, 1, 0, 0, 0)), nil, false},
		{"what is not got is not in the Meet", short, both(getsWedged(), getsReady(0, 3, 1)), nil, false},
	})
}

// Ver is 1 more where its own Row became another one, whatever the Step did; else it is as it was.
func TestVerOfStep(t *testing.T) {
	lot := rand.New(rand.NewSource(171))
	changes := map[string]int{}
	for range 30000 {
		m := nearMember(lot)
		got := impl.Step(m)
		was, now := ownRow(m), ownRow(got)
		same := alikeRow(changed(now, func(r *impl.Row) { r.Ver = was.Ver }), was)
		if same && now.Ver != was.Ver || !same && now.Ver != was.Ver+1 {
			t.Fatalf("Step of %s has Ver %d", toldMember(m), now.Ver)
		}
		for what, is := range map[string]bool{
			"Wedged": now.Wedged != was.Wedged, "Suspects": !slices.Equal(now.Suspects, was.Suspects), "Got": !slices.Equal(now.Got, was.Got), "Sung": len(got.Sung) > len(m.Sung),
			"Ready": now.Ready != was.Ready, "By": was.Ready && now.By != was.By, "Done": got.Done != m.Done, "nothing": alikeMember(got, m),
			"Done alone": same && got.Done != m.Done, "all ends at once": !was.Wedged && got.Done, "Done and sung": got.Done != m.Done && len(got.Sung) > len(m.Sung),
		} {
			if is {
				changes[what]++
			}
		}
	}
	if len(changes) != 11 {
		t.Fatalf("only these came up: %v", changes)
	}
	for what, count := range changes {
		if count < 20 {
			t.Fatalf("%s came up %d times: %v", what, count, changes)
		}
	}
}
