package tests

import (
	"fmt"
	"math"
	"math/rand"
	"slices"
	"testing"

	"loop.example/g00266/impl"
)

const (
	mostInView = 8
	lastInView = 99
)

func viewOf(id int64, members ...int64) impl.View { return impl.View{Id: id, Members: members} }

func alikeViews(a, b impl.View) bool { return a.Id == b.Id && slices.Equal(a.Members, b.Members) }

func isZeroView(v impl.View) bool { return alikeViews(v, impl.View{}) }

func copiedView(v impl.View) impl.View { return impl.View{Id: v.Id, Members: slices.Clone(v.Members)} }

func toldView(v impl.View) string { return shortened(fmt.Sprint(v)) }

func toldList(list []int64) string { return shortened(fmt.Sprint(list)) }

// isView is what the document asks of a View, word by word.
func isView(v impl.View) bool {
	if v.Id < 1 || v.Id > 1000000 || len(v.Members) < 1 || len(v.Members) > 8 {
		return false
	}
	for i, member := range v.Members {
		if member < 0 || member > 99 || i > 0 && member <= v.Members[i-1] {
			return false
		}
	}
	return true
}

// stayed are the Members that are not among gone.
func stayed(v impl.View, gone []int64) []int64 {
	return slices.DeleteFunc(slices.Clone(v.Members), func(member int64) bool { return slices.Contains(gone, member) })
}

func leaderOf(v impl.View, suspects []int64) int64 {
	if left := stayed(v, suspects); isView(v) && len(left) > 0 {
		return left[0]
	}
	return -1
}

// isMajority holds those that are in the list against those that are not.
func isMajority(v impl.View, list []int64) bool {
	out := len(stayed(v, list))
	return isView(v) && len(v.Members)-out > out
}

func afterOf(v impl.View, gone, come []int64) (impl.View, bool) {
	if !isView(v) {
		return impl.View{}, false
	}
	stay := stayed(v, gone)
	members := slices.Concat(stay, come)
	slices.Sort(members)
	next := impl.View{Id: v.Id + 1, Members: slices.Compact(members)}
	if 2*len(stay) <= len(v.Members) || !isView(next) {
		return impl.View{}, false
	}
	return next, true
}

func rankOf(v impl.View, node int64) int64 {
	if !isView(v) || !slices.Contains(v.Members, node) {
		return -1
	}
	less := int64(0)
	for _, member := range v.Members {
		if member < node {
			less++
		}
	}
	return less
}

func checkLeader(t *testing.T, v impl.View, suspects []int64) int64 {
	t.Helper()
	got := impl.Leader(v, suspects)
	if want := leaderOf(v, suspects); got != want {
		t.Fatalf("Leader(%s, %s) is %d, not %d", toldView(v), toldList(suspects), got, want)
	}
	return got
}

func checkMajority(t *testing.T, v impl.View, list []int64) bool {
	t.Helper()
	got := impl.Majority(v, list)
	if want := isMajority(v, list); got != want {
		t.Fatalf("Majority(%s, %s) is %v", toldView(v), toldList(list), got)
	}
	return got
}

func checkAfter(t *testing.T, v impl.View, gone, come []int64) (impl.View, bool) {
	t.Helper()
	got, is := impl.After(v, gone, come)
	if want, wantIs := afterOf(v, gone, come); is != wantIs || !alikeViews(got, want) {
		t.Fatalf("After(%s, %s, %s) is %s and %v, not %v and %v", toldView(v), toldList(gone), toldList(come), toldView(got), is, want, wantIs)
	}
	return got, is
}

func checkRank(t *testing.T, v impl.View, node int64) {
	t.Helper()
	if got, want := impl.Rank(v, node), rankOf(v, node); got != want {
		t.Fatalf("Rank(%s, %d) is %d, not %d", toldView(v), node, got, want)
	}
}

// checkComesAfter is for what is written out in a test; no Members say that there is no View.
func checkComesAfter(t *testing.T, v impl.View, gone, come, want []int64) {
	t.Helper()
	got, is := impl.After(v, gone, come)
	if want == nil && (is || !isZeroView(got)) {
		t.Errorf("After(%v, %v, %v) is %v and %v", v, gone, come, got, is)
	}
	if want != nil && (!is || !alikeViews(got, viewOf(v.Id+1, want...))) {
		t.Errorf("After(%v, %v, %v) is %v and %v, not Members %v", v, gone, come, got, is, want)
	}
}

// choicesOf are all choices of these, in their order.
func choicesOf(list ...int64) [][]int64 {
	var out [][]int64
	for _, part := range partsOf(int64(len(list))) {
		choice := []int64{}
		for _, i := range part {
			choice = append(choice, list[i])
		}
		out = append(out, choice)
	}
	return out
}

// smallViews are all of at most five Members at both ends of what they may be, and with Ids at both ends, too.
func smallViews() []impl.View {
	var out []impl.View
	for _, members := range choicesOf(0, 1, 50, 98, 99) {
		for _, id := range []int64{1, 7, most - 1, most} {
			if len(members) > 0 {
				out = append(out, viewOf(id, slices.Clone(members)...))
			}
		}
	}
	return out
}

func drawnMembers(lot *rand.Rand, count int) []int64 {
	out := []int64{}
	for _, node := range lot.Perm(lastInView + 1)[:count] {
		out = append(out, int64(node))
	}
	slices.Sort(out)
	return out
}

// manyViews are of each count of Members: the first ones, the last ones, and drawn.
func manyViews() []impl.View {
	lot := rand.New(rand.NewSource(14))
	var out []impl.View
	for count := 1; count <= mostInView; count++ {
		first, last := []int64{}, []int64{}
		for i := range int64(count) {
			first = append(first, i)
			last = append(last, lastInView+1-int64(count)+i)
		}
		out = append(out, viewOf(1, first...), viewOf(most-1, last...), viewOf(most, drawnMembers(lot, count)...))
		for range 4 {
			out = append(out, viewOf(1+lot.Int63n(most), drawnMembers(lot, count)...))
		}
	}
	return out
}

func rightViews() []impl.View { return slices.Concat(smallViews(), manyViews()) }

// noMembers are nodes of no View and some that this one does not have; some of the first would be Members if they were cut short.
func noMembers(v impl.View) []int64 {
	out := append(ends(), 100, 101, 256, 1<<32, most, -1<<32)
	for _, member := range v.Members {
		out = append(out, member+256, member+1<<16, member+1<<32, member-1<<32, -member-1)
	}
	for _, node := range []int64{0, 1, 2, 37, 50, 98, 99} {
		if !slices.Contains(v.Members, node) {
			out = append(out, node)
		}
	}
	return out
}

func TestViewsWrittenOut(t *testing.T) {
	v := viewOf(5, 2, 3, 7, 11, 20)
	if !impl.ViewOk(v) {
		t.Fatalf("ViewOk(%v) is false", v)
	}
	leaders := []struct {
		suspects []int64
		want     int64
	}{
		{nil, 2}, {[]int64{3}, 2}, {[]int64{2}, 3}, {[]int64{3, 2}, 7}, {[]int64{2, 2, 2}, 3}, {[]int64{2, 7}, 3},
		{[]int64{1, 4, 99}, 2}, {[]int64{11, 7, 3, 2}, 20}, {[]int64{2, 3, 7, 11, 20}, -1}, {[]int64{20, 20, 11, 0, 7, 3, 2}, -1},
	}
	for _, c := range leaders {
		if got := impl.Leader(v, c.suspects); got != c.want {
			t.Errorf("Leader(%v, %v) is %d, not %d", v, c.suspects, got, c.want)
		}
	}
	majorities := []struct {
		list []int64
		want bool
	}{
		{nil, false}, {[]int64{2, 3}, false}, {[]int64{2, 3, 7}, true}, {[]int64{20, 3, 11}, true}, {[]int64{2, 2, 3}, false},
		{[]int64{2, 3, 4, 5, 6}, false}, {[]int64{4, 20, 6, 2, 8, 7}, true}, {[]int64{2, 3, 7, 11, 20}, true},
	}
	for _, c := range majorities {
		if got := impl.Majority(v, c.list); got != c.want {
			t.Errorf("Majority(%v, %v) is %v", v, c.list, got)
		}
	}
	for node, want := range map[int64]int64{2: 0, 3: 1, 7: 2, 11: 3, 20: 4, 0: -1, 1: -1, 5: -1, 19: -1, 21: -1, 99: -1, -1: -1, 100: -1} {
		if got := impl.Rank(v, node); got != want {
			t.Errorf("Rank(%v, %d) is %d, not %d", v, node, got, want)
		}
	}
}

func TestViewsAfterWrittenOut(t *testing.T) {
	v := viewOf(5, 2, 3, 7, 11, 20)
	cases := []struct{ gone, come, want []int64 }{
		{nil, nil, []int64{2, 3, 7, 11, 20}},
		{[]int64{3}, nil, []int64{2, 7, 11, 20}},
		{[]int64{20, 2}, nil, []int64{3, 7, 11}},
		{[]int64{2, 3, 7}, nil, nil},
		{nil, []int64{5}, []int64{2, 3, 5, 7, 11, 20}},
		{nil, []int64{99, 0, 5}, []int64{0, 2, 3, 5, 7, 11, 20, 99}},
		{nil, []int64{99, 0, 5, 6}, nil},
		{[]int64{3}, []int64{99, 0, 5, 6}, []int64{0, 2, 5, 6, 7, 11, 20, 99}},
		// One that is gone and comes at once is in.
		{[]int64{3}, []int64{3}, []int64{2, 3, 7, 11, 20}},
		// But it did not stay: two that did are no Majority of five.
		{[]int64{2, 3, 7}, []int64{2, 3, 7}, nil},
		{[]int64{2, 3, 7, 11, 20}, []int64{2, 3, 7, 11, 20}, nil},
		// One that is gone twice is gone, one that comes twice or is in already is in once, one that is gone though it was in no View changes nothing.
		{[]int64{3, 3, 3, 3}, nil, []int64{2, 7, 11, 20}},
		{nil, []int64{5, 5, 5, 5, 5}, []int64{2, 3, 5, 7, 11, 20}},
		{nil, []int64{2, 20, 7}, []int64{2, 3, 7, 11, 20}},
		{[]int64{0, 50, 99, -1, 100}, nil, []int64{2, 3, 7, 11, 20}},
		{nil, []int64{-1}, nil},
		{nil, []int64{100}, nil},
		{[]int64{-1, 100}, []int64{-1, 100}, nil},
		{[]int64{5}, []int64{5}, []int64{2, 3, 5, 7, 11, 20}},
	}
	for _, c := range cases {
		checkComesAfter(t, v, c.gone, c.come, c.want)
	}
	checkComesAfter(t, viewOf(most-1, 4), nil, nil, []int64{4})
	checkComesAfter(t, viewOf(most, 4), nil, nil, nil)
	checkComesAfter(t, viewOf(most, 4, 9), nil, []int64{5}, nil)
	checkComesAfter(t, viewOf(1, 4), []int64{4}, nil, nil)
	checkComesAfter(t, viewOf(1, 4), []int64{4}, []int64{5}, nil)
	checkComesAfter(t, viewOf(1, 4, 9), []int64{4}, []int64{5, 6, 7}, nil)
	checkComesAfter(t, viewOf(1, 4, 9, 12), []int64{4}, []int64{5, 6, 7}, []int64{5, 6, 7, 9, 12})
}

// forLists goes through all choices of a View's Members, and of some others with them.
func forLists(do func(v impl.View, list []int64)) {
	for _, v := range smallViews() {
		for _, list := range choicesOf(0, 1, 37, 50, 98, 99, 100, -1) {
			do(v, list)
		}
	}
	for _, v := range manyViews() {
		for _, list := range choicesOf(v.Members...) {
			do(v, list)
			do(v, append(list, noMembers(v)...))
			do(v, slices.Concat(noMembers(v), list, list))
		}
	}
}

// Promise 14: whoever leads is a Member and not among suspects; all Members that are less are.
func TestWhoLeadsIsIn(t *testing.T) {
	forLists(func(v impl.View, suspects []int64) {
		leader := checkLeader(t, v, suspects)
		if leader != -1 && (!slices.Contains(v.Members, leader) || slices.Contains(suspects, leader)) {
			t.Fatalf("Leader(%v, %v) is %d", v, suspects, leader)
		}
		for _, member := range v.Members {
			if (leader == -1 || member < leader) && !slices.Contains(suspects, member) {
				t.Fatalf("Leader(%v, %v) is %d, but %d is less and no suspect", v, suspects, leader, member)
			}
		}
	})
}

func TestNobodyLeadsWhereAllAreSuspected(t *testing.T) {
	lot := rand.New(rand.NewSource(141))
	for _, v := range rightViews() {
		if got := impl.Leader(v, nil); got != v.Members[0] {
			t.Fatalf("Leader(%v) without suspects is %d", v, got)
		}
		all := slices.Concat(v.Members, noMembers(v), v.Members)
		lot.Shuffle(len(all), func(i, k int) { all[i], all[k] = all[k], all[i] })
		for _, suspects := range [][]int64{v.Members, all} {
			if got := impl.Leader(v, suspects); got != -1 {
				t.Fatalf("Leader(%v, %v) is %d", v, suspects, got)
			}
		}
		for _, member := range v.Members {
			if got := impl.Leader(v, stayed(viewOf(1, all...), []int64{member})); got != member {
				t.Fatalf("of %v all but %d are suspected, and %d leads", v, member, got)
			}
		}
	}
}

// The next one that leads where all that led are suspected is the next Member.
func TestMembersLeadOneByOne(t *testing.T) {
	for _, v := range rightViews() {
		suspects := []int64{}
		for rank, member := range v.Members {
			leader := impl.Leader(v, suspects)
			if leader != member || impl.Rank(v, leader) != int64(rank) {
				t.Fatalf("Leader(%v, %v) is %d, and its Rank %d", v, suspects, leader, impl.Rank(v, leader))
			}
			suspects = append([]int64{leader}, suspects...)
		}
	}
}

// shareMember asks whether two lists share one of the View's Members.
func shareMember(v impl.View, a, b []int64) bool {
	return slices.ContainsFunc(v.Members, func(member int64) bool {
		return slices.Contains(a, member) && slices.Contains(b, member)
	})
}

// Promise 14: any two lists that are Majorities of one View share a Member.
func TestTwoMajoritiesShareOne(t *testing.T) {
	for _, v := range rightViews() {
		var majorities [][]int64
		for i, list := range choicesOf(v.Members...) {
			if i%3 == 1 {
				list = slices.Concat(noMembers(v), list, list)
			}
			if checkMajority(t, v, list) {
				majorities = append(majorities, list)
			}
		}
		if len(majorities) == 0 {
			t.Fatalf("of %v there is no Majority", v)
		}
		for _, a := range majorities {
			for _, b := range majorities {
				if !shareMember(v, a, b) {
					t.Fatalf("of %v both %v and %v are Majorities", v, a, b)
				}
			}
		}
	}
}

// Promise 14: of a list and all Members that are not in it at most one is a Majority, and just one where the Members are an odd count.
func TestMajorityAndTheRest(t *testing.T) {
	forLists(func(v impl.View, list []int64) {
		one, rest := checkMajority(t, v, list), checkMajority(t, v, stayed(v, list))
		if one && rest || len(v.Members)%2 == 1 && !one && !rest {
			t.Fatalf("of %v: Majority of %v is %v, of the rest it is %v", v, list, one, rest)
		}
	})
}

// Promise 14: a Majority of a View shares one with those that stay in the View After it.
func TestMajorityMeetsThoseThatStay(t *testing.T) {
	for _, v := range rightViews() {
		choices := choicesOf(v.Members...)
		for _, gone := range choices {
			next, is := impl.After(v, gone, nil)
			if is != (checkMajority(t, v, stayed(v, gone)) && v.Id < most) {
				t.Fatalf("After(%v, %v, nil) is %v and %v", v, gone, next, is)
			}
			for _, list := range choices {
				if is && impl.Majority(v, list) && !shareMember(v, list, next.Members) {
					t.Fatalf("of %v %v is a Majority, but %v is the next View", v, list, next)
				}
			}
		}
	}
}

// From one View to the next, drawn: each is right, with the next Id, and a Majority of the one ahead of it is in.
func TestViewsGoOn(t *testing.T) {
	lot := rand.New(rand.NewSource(142))
	taken := 0
	for range 300 {
		v := viewOf(1+lot.Int63n(most-1), drawnMembers(lot, 1+lot.Intn(mostInView))...)
		for range 30 {
			gone, come := drawnMembers(lot, lot.Intn(40)), drawnMembers(lot, lot.Intn(4))
			next, is := checkAfter(t, v, gone, come)
			if !is {
				continue
			}
			taken++
			if next.Id != v.Id+1 || !impl.ViewOk(next) || !impl.Majority(v, next.Members) {
				t.Fatalf("After(%v, %v, %v) is %v", v, gone, come, next)
			}
			v = next
		}
	}
	if taken < 1000 {
		t.Fatalf("only %d Views came after others", taken)
	}
}

// Promise 14: the least Majorities are written out here; one less is none, and of an even count that is just half.
func TestMajorityAtTheHalf(t *testing.T) {
	least := []int{0, 1, 2, 2, 3, 3, 4, 4, 5}
	forLists(func(v impl.View, list []int64) {
		in := len(v.Members) - len(stayed(v, list))
		if want := in >= least[len(v.Members)]; impl.Majority(v, list) != want {
			t.Fatalf("Majority(%v, %v) is %v", v, list, !want)
		}
	})
	for _, v := range manyViews() {
		count := least[len(v.Members)]
		if !impl.Majority(v, v.Members[:count]) || !impl.Majority(v, v.Members[len(v.Members)-count:]) {
			t.Fatalf("of %v the first or the last %d are no Majority", v, count)
		}
		if impl.Majority(v, v.Members[:count-1]) || impl.Majority(v, v.Members[len(v.Members)-count+1:]) {
			t.Fatalf("of %v the first or the last %d are a Majority", v, count-1)
		}
	}
}

// A Member that is told often counts once, and whoever is no Member not at all.
func TestMajorityCountsMembersOnce(t *testing.T) {
	for _, v := range rightViews() {
		if impl.Majority(v, nil) || impl.Majority(v, []int64{}) || impl.Majority(v, noMembers(v)) {
			t.Fatalf("a list without Members is a Majority of %v", v)
		}
		for _, member := range v.Members {
			want := len(v.Members) == 1
			for _, list := range [][]int64{{member}, repeated(member, 2), repeated(member, 9), append(noMembers(v), repeated(member, 20)...)} {
				if impl.Majority(v, list) != want {
					t.Fatalf("Majority(%v, %v) is %v", v, list, !want)
				}
			}
		}
		if !impl.Majority(v, v.Members) || !impl.Majority(v, slices.Concat(noMembers(v), v.Members, v.Members)) {
			t.Fatalf("all Members are no Majority of %v", v)
		}
	}
}

// A list with more in it is a Majority where the shorter one is, in whatever order.
func TestMajorityGrowsWithTheList(t *testing.T) {
	lot := rand.New(rand.NewSource(143))
	forLists(func(v impl.View, list []int64) {
		was := impl.Majority(v, list)
		other := slices.Clone(list)
		lot.Shuffle(len(other), func(i, k int) { other[i], other[k] = other[k], other[i] })
		if impl.Majority(v, other) != was {
			t.Fatalf("of %v: Majority of %v is %v, of %v it is not", v, list, was, other)
		}
		for _, member := range v.Members {
			if was && !impl.Majority(v, append(other, member)) {
				t.Fatalf("with %d behind it %v is no Majority of %v", member, list, v)
			}
		}
	})
}

// All choices of who is gone and who comes, out of Members and others, the greatest Id among the Views.
func TestAfterOfAllChoices(t *testing.T) {
	lists := choicesOf(0, 1, 37, 50, 98, 99)
	for _, v := range smallViews() {
		for _, gone := range lists {
			for _, come := range lists {
				checkAfter(t, v, gone, come)
			}
		}
	}
}

// Whoever is in the View After is one that stays or comes, and each of those is in.
func TestWhoIsInAfter(t *testing.T) {
	lists := choicesOf(0, 1, 37, 50, 98, 99)
	for _, v := range smallViews() {
		for _, gone := range lists {
			for _, come := range lists {
				next, is := impl.After(v, gone, come)
				for node := int64(-1); is && node <= lastInView+1; node++ {
					stays := slices.Contains(v.Members, node) && !slices.Contains(gone, node)
					want := stays || slices.Contains(come, node)
					if slices.Contains(next.Members, node) != want || (impl.Rank(next, node) >= 0) != want {
						t.Fatalf("After(%v, %v, %v) is %v: %d", v, gone, come, next, node)
					}
				}
			}
		}
	}
}

func TestAfterWithNobodyGoneAndNobodyCome(t *testing.T) {
	for _, v := range rightViews() {
		for _, gone := range [][]int64{nil, {}, noMembers(v)} {
			for _, come := range [][]int64{nil, {}, v.Members, v.Members[:1], slices.Concat(v.Members, v.Members)} {
				next, is := checkAfter(t, v, gone, come)
				if is != (v.Id < most) || is && !slices.Equal(next.Members, v.Members) {
					t.Fatalf("After(%v, %v, %v) is %v and %v", v, gone, come, next, is)
				}
			}
		}
	}
}

// In whatever order gone and come are told, and how often, the same View comes.
func TestAfterInWhateverOrder(t *testing.T) {
	lot := rand.New(rand.NewSource(144))
	for _, v := range rightViews() {
		for range 20 {
			gone := slices.Concat(drawnMembers(lot, lot.Intn(30)), v.Members[:lot.Intn(len(v.Members)+1)])
			come := drawnMembers(lot, lot.Intn(5))
			want, wantIs := checkAfter(t, v, gone, come)
			for range 3 {
				gone, come = slices.Concat(gone, gone), slices.Concat(come, come)
				lot.Shuffle(len(gone), func(i, k int) { gone[i], gone[k] = gone[k], gone[i] })
				lot.Shuffle(len(come), func(i, k int) { come[i], come[k] = come[k], come[i] })
				if got, is := impl.After(v, gone, come); is != wantIs || !alikeViews(got, want) {
					t.Fatalf("After(%v, %v, %v) is %v and %v, not %v and %v", v, gone, come, got, is, want, wantIs)
				}
			}
		}
	}
}

// One that is gone and comes at once is in, but counts as none that stays: just half of those that stay is too few, with all of the others back.
func TestGoneAndComeAtOnce(t *testing.T) {
	for _, v := range rightViews() {
		for _, gone := range choicesOf(v.Members...) {
			next, is := checkAfter(t, v, gone, gone)
			want := 2*len(gone) < len(v.Members) && v.Id < most
			if is != want || is && !slices.Equal(next.Members, v.Members) {
				t.Fatalf("After(%v, %v, %v) is %v and %v", v, gone, gone, next, is)
			}
		}
	}
}

// Eight Members and one more: whoever is in already and whoever is gone takes no room.
func TestAfterWithEightAndOneMore(t *testing.T) {
	for _, v := range manyViews() {
		if v.Id == most {
			continue
		}
		others := stayed(viewOf(1, countedFrom(0, 100)...), v.Members)
		room := mostInView - len(v.Members)
		full, is := checkAfter(t, v, nil, others[:room])
		if !is || len(full.Members) != mostInView {
			t.Fatalf("After(%v, nil, %v) is %v and %v", v, others[:room], full, is)
		}
		for _, come := range [][]int64{others[:room+1], others, slices.Concat(others[:room+1], v.Members)} {
			if next, is := checkAfter(t, v, nil, come); is || !isZeroView(next) {
				t.Fatalf("After(%v, nil, %v) is %v and %v", v, come, next, is)
			}
		}
		if _, is := checkAfter(t, v, nil, slices.Concat(v.Members, others[:room], v.Members, others[:room])); !is {
			t.Fatalf("of %v those that are in already take room", v)
		}
		if len(v.Members) < 3 {
			continue
		}
		for _, member := range v.Members {
			if next, is := checkAfter(t, v, []int64{member}, others[:room+1]); !is || len(next.Members) != mostInView {
				t.Fatalf("After(%v, %d, %v) is %v and %v", v, member, others[:room+1], next, is)
			}
			if _, is := checkAfter(t, v, []int64{member}, others[:room+2]); is {
				t.Fatalf("After(%v, %d, %v) has 9 Members", v, member, others[:room+2])
			}
			if _, is := checkAfter(t, v, []int64{member}, append([]int64{member}, others[:room+1]...)); is {
				t.Fatalf("After(%v, %d, it and %v) has 9 Members", v, member, others[:room+1])
			}
		}
	}
}

// countedFrom are this many numbers, from the first one on.
func countedFrom(first int64, count int) []int64 {
	out := []int64{}
	for i := range int64(count) {
		out = append(out, first+i)
	}
	return out
}

// The greatest Id has no View behind it, whatever is asked; the one below it has one.
func TestAfterTheGreatestId(t *testing.T) {
	for _, v := range rightViews() {
		for _, id := range []int64{1, 2, most - 2, most - 1, most} {
			mine := copiedView(v)
			mine.Id = id
			for _, come := range [][]int64{nil, v.Members, {0}, {99}} {
				next, is := checkAfter(t, mine, nil, come)
				if id == most && (is || !isZeroView(next)) {
					t.Fatalf("After(%v, nil, %v) is %v and %v", mine, come, next, is)
				}
				if is && next.Id != id+1 {
					t.Fatalf("After(%v, nil, %v) is %v", mine, come, next)
				}
			}
			if next, is := impl.After(mine, nil, nil); is != (id < most) || is && next.Id != id+1 {
				t.Fatalf("After(%v, nil, nil) is %v and %v", mine, next, is)
			}
		}
	}
}

// Promise 21: one node that comes and may be no Member makes it no View, beside whatever else comes or is gone.
func TestAfterWithOneThatMayBeNoMember(t *testing.T) {
	for _, v := range manyViews() {
		for _, node := range noMembers(v) {
			if node >= 0 && node <= lastInView {
				continue
			}
			for _, come := range [][]int64{{node}, {v.Members[0], node}, {node, v.Members[0]}, {node, node}} {
				for _, gone := range [][]int64{nil, {node}, {v.Members[0]}} {
					if next, is := impl.After(v, gone, come); is || !isZeroView(next) {
						t.Fatalf("After(%v, %v, %v) is %v and %v", v, gone, come, next, is)
					}
				}
			}
			next, is := checkAfter(t, v, []int64{node, node}, nil)
			if is != (v.Id < most) || is && !slices.Equal(next.Members, v.Members) {
				t.Fatalf("After(%v, %d, nil) is %v and %v", v, node, next, is)
			}
		}
	}
}

// Ranks go up with the Members, from 0 on without a gap; all others have none.
func TestRanksGoUpWithTheMembers(t *testing.T) {
	for _, v := range rightViews() {
		for i, member := range v.Members {
			if got := impl.Rank(v, member); got != int64(i) {
				t.Fatalf("Rank(%v, %d) is %d, not %d", v, member, got, i)
			}
		}
		for node := int64(-3); node <= lastInView+3; node++ {
			checkRank(t, v, node)
		}
		for _, node := range noMembers(v) {
			if got := impl.Rank(v, node); got != -1 {
				t.Fatalf("Rank(%v, %d) is %d", v, node, got)
			}
		}
	}
}

// viewLists are lists that a View is asked with, its own Members among them.
func viewLists(v impl.View) [][]int64 {
	members := v.Members[:min(len(v.Members), 20)]
	return [][]int64{nil, {}, {0}, {1, 2, 3}, members, slices.Concat(members, members), {math.MinInt64, -1, 100, math.MaxInt64}, countedFrom(0, 100)}
}

func checkView(t *testing.T, v impl.View) {
	t.Helper()
	if ok := isView(v); impl.ViewOk(v) != ok {
		t.Fatalf("ViewOk(%s) is %v", toldView(v), !ok)
	}
	lists := viewLists(v)
	for _, list := range lists {
		checkLeader(t, v, list)
		checkMajority(t, v, list)
		for _, come := range lists {
			checkAfter(t, v, list, come)
		}
		for _, node := range list {
			checkRank(t, v, node)
		}
	}
}

// checkNoView asks what would be so if Id and Members were not looked at, too.
func checkNoView(t *testing.T, v impl.View) {
	t.Helper()
	if impl.ViewOk(v) {
		t.Fatalf("ViewOk(%s) is true", toldView(v))
	}
	lists := viewLists(v)
	for _, list := range lists {
		if leader, majority := impl.Leader(v, list), impl.Majority(v, list); leader != -1 || majority {
			t.Fatalf("of %s, which is no View, with %s: Leader %d, Majority %v", toldView(v), toldList(list), leader, majority)
		}
		for _, come := range lists {
			if next, is := impl.After(v, list, come); is || !isZeroView(next) {
				t.Fatalf("After(%s, %s, %s) is %v and %v, but that is no View", toldView(v), toldList(list), toldList(come), next, is)
			}
		}
		for _, node := range list {
			if rank := impl.Rank(v, node); rank != -1 {
				t.Fatalf("Rank(%s, %d) is %d, but that is no View", toldView(v), node, rank)
			}
		}
	}
}

func TestRightViews(t *testing.T) {
	for _, v := range rightViews() {
		if !impl.ViewOk(v) {
			t.Fatalf("ViewOk(%v) is false", v)
		}
		checkView(t, v)
	}
}

// wrongIds and wrongMembers are what no View has.
func wrongIds() []int64 {
	return []int64{math.MinInt64, math.MinInt64 + 1, -most, -1, 0, most + 1, most + 2, 1 << 32, 1<<32 + 1, math.MaxInt64 - 1, math.MaxInt64}
}

func wrongMembers() [][]int64 {
	return [][]int64{
		nil, {}, countedFrom(0, 9), countedFrom(91, 9), countedFrom(0, 10), countedFrom(0, 100), countedFrom(-1, 3), countedFrom(98, 3),
		{-1}, {100}, {math.MinInt64}, {math.MaxInt64}, {256}, {1 << 32}, {-1, 0}, {99, 100}, {0, math.MaxInt64}, {math.MinInt64, 0}, {math.MinInt64, math.MaxInt64},
		{0, 0}, {99, 99}, {1, 0}, {99, 0}, {3, 2, 1}, {1, 2, 2}, {1, 1, 2}, {1, 3, 2}, {2, 1, 3}, {0, 1, 2, 3, 4, 5, 6, 6}, {0, 1, 2, 3, 4, 5, 7, 6}, {1, 0, 2, 3, 4, 5, 6, 7},
		repeated(4, 8), repeated(0, 2), {0, 1, 2, 3, 4, 5, 6, 100}, {-1, 1, 2, 3, 4, 5, 6, 7},
	}
}

func wrongViews() []impl.View {
	var out []impl.View
	for _, id := range wrongIds() {
		for _, members := range [][]int64{{0}, {99}, {1, 4, 6}, countedFrom(92, 8), nil, {-1}} {
			out = append(out, viewOf(id, members...))
		}
	}
	for _, members := range wrongMembers() {
		for _, id := range []int64{1, 3, most, 0} {
			out = append(out, viewOf(id, members...))
		}
	}
	return append(out, impl.View{})
}

// Promise 21: what is no View has the answer that is named for it, in each function.
func TestWrongViews(t *testing.T) {
	for _, v := range wrongViews() {
		checkNoView(t, v)
		checkView(t, v)
	}
}

func TestViewsAtTheLimits(t *testing.T) {
	for _, id := range []int64{-1, 0, 1, 2, most - 1, most, most + 1} {
		for count := range 12 {
			for _, first := range []int64{-2, -1, 0, 1, int64(99 - count), int64(100 - count), int64(101 - count)} {
				v := viewOf(id, countedFrom(first, count)...)
				want := id >= 1 && id <= most && count >= 1 && count <= 8 && first >= 0 && first+int64(count) <= 100
				if impl.ViewOk(v) != want {
					t.Fatalf("ViewOk(%v) is %v", v, !want)
				}
				checkView(t, v)
				if !want {
					checkNoView(t, v)
				}
			}
		}
	}
}

// Promise 21: each wrong number is tried at each place: out of range, alike the one ahead of it, or less.
func TestViewsWithOneWrongMember(t *testing.T) {
	for count := 1; count <= mostInView; count++ {
		for place := range count {
			wrong := append(ends(), 100, 256+30, 1<<32+30)
			if place > 0 {
				wrong = append(wrong, int64(10*place-1), int64(10*place), 0)
			}
			for _, node := range wrong {
				v := viewOf(3)
				for i := range int64(count) {
					v.Members = append(v.Members, 10*i+10)
				}
				v.Members[place] = node
				checkNoView(t, v)
			}
		}
	}
}

// Promise 21: the greatest and the least numbers in each place of a right View's questions.
func TestViewsAskedWithTheEnds(t *testing.T) {
	for _, v := range rightViews() {
		for _, n := range append(ends(), 100, most, most+1) {
			list := []int64{n}
			if got := impl.Leader(v, list); got != v.Members[0] {
				t.Fatalf("Leader(%v, %v) is %d", v, list, got)
			}
			if impl.Majority(v, list) || impl.Rank(v, n) != -1 {
				t.Fatalf("of %v with %d: Majority %v, Rank %d", v, n, impl.Majority(v, list), impl.Rank(v, n))
			}
			if next, is := impl.After(v, nil, list); is || !isZeroView(next) {
				t.Fatalf("After(%v, nil, %v) is %v and %v", v, list, next, is)
			}
			if next, is := impl.After(v, list, nil); is != (v.Id < most) || is && !slices.Equal(next.Members, v.Members) {
				t.Fatalf("After(%v, %v, nil) is %v and %v", v, list, next, is)
			}
			checkAfter(t, v, list, list)
		}
	}
}

// Promise 21: lists that are very long answer as any others; Members that are far too many are refused.
func TestVeryLongViewLists(t *testing.T) {
	for _, count := range []int{257, 264, 65537, 100000} {
		for _, members := range [][]int64{countedFrom(0, count), repeated(7, count), make([]int64, count), append(repeated(-1, count), 5)} {
			checkNoView(t, viewOf(3, members...))
		}
	}
	far := countedFrom(100, 100000)
	for _, v := range manyViews() {
		first := v.Members[0]
		for _, list := range [][]int64{repeated(first, 100000), countedFrom(-50000, 100000), append(slices.Clone(far), v.Members...), append(slices.Clone(v.Members), far...), far} {
			checkLeader(t, v, list)
			checkMajority(t, v, list)
			checkAfter(t, v, list, nil)
			checkAfter(t, v, nil, list)
			checkAfter(t, v, list, list)
		}
		// So many times one that is in: nobody else comes.
		if _, is := checkAfter(t, v, far, repeated(first, 100000)); is != (v.Id < most) {
			t.Fatalf("After(%v, .., %d told very often) is %v", v, first, is)
		}
	}
}

func roomyView(v impl.View, mark int64) impl.View {
	return impl.View{Id: v.Id, Members: roomyWith(v.Members, mark)}
}

func viewCases() []impl.View { return slices.Concat(manyViews(), wrongViews()) }

// viewAnswers are all Views that come After this one; the other functions are asked beside.
func viewAnswers(v impl.View, gone, come []int64) []impl.View {
	first, _ := impl.After(v, gone, come)
	second, _ := impl.After(v, nil, come)
	third, _ := impl.After(v, gone, nil)
	fourth, _ := impl.After(v, nil, nil)
	impl.ViewOk(v)
	for _, list := range [][]int64{gone, come} {
		impl.Leader(v, list)
		impl.Majority(v, list)
		for _, node := range list {
			impl.Rank(v, node)
		}
	}
	return []impl.View{first, second, third, fourth}
}

func copiedViews(list []impl.View) []impl.View {
	var out []impl.View
	for _, v := range list {
		out = append(out, copiedView(v))
	}
	return out
}

func alikeAllViews(a, b []impl.View) bool { return slices.EqualFunc(a, b, alikeViews) }

// forViewCalls goes through Views, right and wrong, with lists that rise and such as do not.
func forViewCalls(do func(v impl.View, gone, come []int64)) {
	for _, v := range viewCases() {
		for _, gone := range [][]int64{nil, {3, 1, 2}, v.Members[:len(v.Members)/3], {99, 99, -1, 100}} {
			for _, come := range [][]int64{nil, {37, 5}, v.Members, {9, -1}, {50, 50, 4, 50}} {
				do(v, gone, come)
			}
		}
	}
}

// Promise 21: arguments stay, and so does the spare room behind them.
func TestViewArgumentsStay(t *testing.T) {
	forViewCalls(func(v impl.View, gone, come []int64) {
		mine, went, came := roomyView(v, spareMark), roomy(gone), roomy(come)
		was := [][]int64{whole(mine.Members), whole(went), whole(came)}
		viewAnswers(mine, went, came)
		if now := [][]int64{whole(mine.Members), whole(went), whole(came)}; !alikeLists(now, was) {
			t.Fatalf("%v became %v", was, now)
		}
	})
}

// Promise 21: what lies in the spare room behind a list is nobody's.
func TestViewListsEndWhereTheyEnd(t *testing.T) {
	forViewCalls(func(v impl.View, gone, come []int64) {
		for _, mark := range []int64{spareMark, 99, v.Id, math.MaxInt64} {
			mine, went, came := roomyView(v, mark), roomyWith(gone, mark), roomyWith(come, mark)
			checkAfter(t, mine, went, came)
			checkLeader(t, mine, went)
			checkMajority(t, mine, came)
			checkRank(t, mine, mark)
			if ok := isView(v); impl.ViewOk(mine) != ok {
				t.Fatalf("ViewOk(%v) is %v", mine, !ok)
			}
		}
	})
}

// Promise 21: writing over an answer, and the room behind it, changes no argument and no other answer.
func TestViewAnswersAreNewMemory(t *testing.T) {
	forViewCalls(func(v impl.View, gone, come []int64) {
		mine, went, came := roomyView(v, spareMark), roomy(gone), roomy(come)
		was := [][]int64{whole(mine.Members), whole(went), whole(came)}
		earlier := viewAnswers(mine, went, came)
		want := copiedViews(earlier)
		for i, answer := range viewAnswers(mine, went, came) {
			scribble(answer.Members)
			if now := [][]int64{whole(mine.Members), whole(went), whole(came)}; !alikeLists(now, was) {
				t.Fatalf("answer %d shares memory with an argument: %v became %v", i, was, now)
			}
			if !alikeAllViews(earlier, want) || !alikeAllViews(viewAnswers(mine, went, came), want) {
				t.Fatalf("of %v with %v and %v: answer %d shares memory with another one", v, gone, come, i)
			}
		}
	})
}

// Promise 21: nor does what is written into the arguments later change an answer.
func TestViewAnswersStay(t *testing.T) {
	forViewCalls(func(v impl.View, gone, come []int64) {
		mine, went, came := roomyView(v, spareMark), roomy(gone), roomy(come)
		answers := viewAnswers(mine, went, came)
		want := copiedViews(answers)
		scribble(mine.Members)
		scribble(went)
		scribble(came)
		if !alikeAllViews(answers, want) {
			t.Fatalf("what came of %v with %v and %v shares memory with them", v, gone, come)
		}
	})
}

// A View's own Members may be handed in as a list, too: one memory for all arguments.
func TestViewListsThatShareMemory(t *testing.T) {
	for _, v := range rightViews() {
		was := copiedView(v)
		for first := range len(v.Members) {
			for last := first; last <= len(v.Members); last++ {
				part := v.Members[first:last]
				checkLeader(t, v, part)
				checkMajority(t, v, part)
				checkAfter(t, v, part, part)
				checkAfter(t, v, part, v.Members)
				checkAfter(t, v, v.Members, part)
			}
		}
		if !alikeViews(v, was) {
			t.Fatalf("%v became %v", was, v)
		}
	}
}
