package tests

import (
	"math"
	"math/rand"
	"slices"
	"testing"

	"loop.example/g00266/impl"
)

func rule(to, from, plus, limit int64) impl.Rule {
	return impl.Rule{To: to, From: from, Plus: plus, Most: limit}
}

// lifted is what a Rule says, word by word.
func lifted(v []int64, r impl.Rule) []int64 {
	out := slices.Clone(v)
	out[r.To] = max(v[r.To], min(r.Most, v[r.From]+r.Plus))
	return out
}

func isSteady(v []int64, rules []impl.Rule) bool {
	return !slices.ContainsFunc(rules, func(r impl.Rule) bool { return !slices.Equal(lifted(v, r), v) })
}

// raised fires all Rules in turn, until a whole turn changes nothing.
func raised(v []int64, rules []impl.Rule) []int64 {
	out := slices.Clone(v)
	for !isSteady(out, rules) {
		for _, r := range rules {
			out[r.To] = max(out[r.To], min(r.Most, out[r.From]+r.Plus))
		}
	}
	return out
}

func isAbove(a []int64, b []int64) bool {
	for i := range a {
		if a[i] < b[i] {
			return false
		}
	}
	return true
}

// ringed are Rules from each of these places to the next one, and from the last to the first.
func ringed(plus, limit int64, places ...int64) []impl.Rule {
	var out []impl.Rule
	for i, from := range places {
		out = append(out, rule(places[(i+1)%len(places)], from, plus, limit))
	}
	return out
}

// fixRules are lists of Rules that stay small, so that a test may try them in many ways.
func fixRules() [][]impl.Rule {
	chain := ringed(2, 20, 0, 1, 2, 3, 4, 5, 6, 7)[:7]
	back := slices.Clone(chain)
	slices.Reverse(back)
	return [][]impl.Rule{
		nil,
		{rule(0, 1, 3, 100), rule(2, 0, 0, 4), rule(1, 2, 1, 6)},
		{rule(0, 0, 0, 9)}, {rule(0, 0, 5, 23)}, {rule(7, 7, 1, 3), rule(0, 7, 0, 2)},
		{rule(3, 4, 100, 5)}, {rule(3, 4, 100, 0)}, {rule(3, 4, 0, 0)},
		{rule(1, 0, 1, 8), rule(1, 0, 2, 6), rule(1, 0, 0, 9)},
		{rule(1, 0, 2, 3), rule(2, 1, 2, 4), rule(0, 2, 2, 5)},
		{rule(0, 1, 1, 9), rule(1, 0, 0, 4), rule(5, 1, 3, 6), rule(1, 5, 0, 7)},
		chain, back,
		ringed(0, 9, 0, 1, 2, 3, 4, 5, 6, 7),
		ringed(1, 12, 7, 6, 5, 4, 3, 2, 1, 0),
		append(ringed(1, 10, 0, 1, 2), ringed(3, 17, 2, 3, 4)...),
		append(ringed(0, 9, 1, 6), ringed(1, 8, 6, 2)...),
		slices.Repeat([]impl.Rule{rule(2, 5, 1, 11), rule(5, 2, 1, 13)}, 10),
		slices.Concat(chain, back, ringed(1, 15, 0, 7, 3, 4, 1, 6)),
	}
}

func fixVectors() [][]int64 {
	return [][]int64{
		repeated(0, 8), repeated(1, 8), repeated(7, 8), repeated(most, 8),
		{0, 2, 0, 0, 0, 0, 0, 0}, {0, 1, 2, 3, 4, 5, 6, 7}, {7, 6, 5, 4, 3, 2, 1, 0},
		{5, 0, 0, 9, 0, 30, 0, 1}, {0, 0, 0, 0, 0, 0, 0, most}, {most, 0, 0, 0, 0, 0, 0, 0},
	}
}

func drawnRules(lot *rand.Rand, count int, places, plus, limit int64) []impl.Rule {
	var out []impl.Rule
	for range count {
		out = append(out, rule(lot.Int63n(places), lot.Int63n(places), lot.Int63n(plus+1), lot.Int63n(limit+1)))
	}
	return out
}

func drawnNumbers(lot *rand.Rand, limit int64) []int64 {
	out := make([]int64, 8)
	for i := range out {
		out[i] = lot.Int63n(limit + 1)
	}
	return out
}

// forFixpoints goes through vectors with Rules: those above all with all, and then drawn ones of many sizes.
func forFixpoints(do func(v []int64, rules []impl.Rule)) {
	for _, rules := range fixRules() {
		for _, v := range fixVectors() {
			do(v, rules)
		}
	}
	lot := rand.New(rand.NewSource(6))
	for i := range 1500 {
		places, plus, limit := 1+lot.Int63n(8), int64(i%4), 1+lot.Int63n(40)
		do(drawnNumbers(lot, limit), drawnRules(lot, lot.Intn(21), places, plus, limit))
		do(drawnNumbers(lot, 5), drawnRules(lot, lot.Intn(21), 8, 100, 1000))
	}
}

func TestFiredChangesOneNumberAlone(t *testing.T) {
	forFixpoints(func(v []int64, rules []impl.Rule) {
		for _, r := range rules {
			got := impl.Fired(v, r)
			if want := lifted(v, r); !slices.Equal(got, want) {
				t.Fatalf("Fired(%v, %v) is %v, not %v", v, r, got, want)
			}
			for i := range v {
				if got[i] != v[i] && (int64(i) != r.To || v[i] > got[i] || got[i] != min(r.Most, v[r.From]+r.Plus)) {
					t.Fatalf("Fired(%v, %v) is %v", v, r, got)
				}
			}
		}
	})
}

func TestFiredAtAllEdges(t *testing.T) {
	numbers := []int64{0, 1, 99, 100, 101, most - 101, most - 100, most - 99, most - 1, most}
	for _, at := range [][2]int64{{0, 7}, {7, 0}, {3, 4}, {4, 3}, {0, 0}, {7, 7}, {5, 5}} {
		for _, pair := range allLists(2, numbers...) {
			v := repeated(55, 8)
			v[at[0]], v[at[1]] = pair[0], pair[1]
			for _, plus := range []int64{0, 1, 99, 100} {
				for _, limit := range numbers {
					r := rule(at[0], at[1], plus, limit)
					got, want := impl.Fired(v, r), lifted(v, r)
					if !slices.Equal(got, want) {
						t.Fatalf("Fired(%v, %v) is %v, not %v", v, r, got, want)
					}
					if impl.Steady(v, []impl.Rule{r}) != slices.Equal(v, want) {
						t.Fatalf("Steady(%v, %v) is %v", v, r, slices.Equal(v, want))
					}
				}
			}
		}
	}
}

func TestSteadyIsWhereNoRuleChangesAnything(t *testing.T) {
	forFixpoints(func(v []int64, rules []impl.Rule) {
		end := raised(v, rules)
		for _, w := range [][]int64{v, end} {
			want := true
			for _, r := range rules {
				want = want && slices.Equal(impl.Fired(w, r), w)
			}
			if want != isSteady(w, rules) || impl.Steady(w, rules) != want {
				t.Fatalf("Steady(%v, %v) is %v", w, rules, !want)
			}
		}
		for i := range end {
			less := slices.Clone(end)
			less[i] = max(0, less[i]-1)
			if impl.Steady(less, rules) != isSteady(less, rules) {
				t.Fatalf("Steady(%v, %v) is %v", less, rules, !isSteady(less, rules))
			}
		}
	})
}

// One Rule that changes something is enough, wherever on the list it stands.
func TestSteadyAsksEachRule(t *testing.T) {
	v := repeated(4, 8)
	for count := 1; count <= 20; count++ {
		for place := range count {
			rules := slices.Repeat([]impl.Rule{rule(1, 2, 0, most)}, count)
			if !impl.Steady(v, rules) {
				t.Fatalf("Steady(%v, %v) is false", v, rules)
			}
			rules[place] = rule(1, 2, 1, 5)
			if impl.Steady(v, rules) {
				t.Fatalf("Steady(%v, %v) is true", v, rules)
			}
			if got := impl.Settled(v, rules); !slices.Equal(got, lifted(v, rules[place])) {
				t.Fatalf("Settled(%v, %v) is %v", v, rules, got)
			}
		}
	}
}

// Promise 6: Settled is Steady, above what it began with, and stays when it is Settled again.
func TestSettledIsSteady(t *testing.T) {
	forFixpoints(func(v []int64, rules []impl.Rule) {
		want := raised(v, rules)
		got := impl.Settled(v, rules)
		if !slices.Equal(got, want) {
			t.Fatalf("Settled(%v, %v) is %v, not %v", v, rules, got, want)
		}
		if !impl.RulesOk(rules) || !impl.Steady(got, rules) || !impl.Under(v, got) {
			t.Fatalf("Settled(%v, %v) is %v: not Steady, or not above", v, rules, got)
		}
		if again := impl.Settled(got, rules); !slices.Equal(again, got) {
			t.Fatalf("Settled(%v, %v) is %v", got, rules, again)
		}
		for _, r := range rules {
			if after := impl.Settled(lifted(v, r), rules); !slices.Equal(after, got) {
				t.Fatalf("Settled(%v, %v) is %v, behind Fired of %v %v", v, rules, got, r, after)
			}
		}
	})
}

// checkLeast holds Settled against all that are Steady among these.
func checkLeast(t *testing.T, v []int64, rules []impl.Rule, among [][]int64) {
	t.Helper()
	got := impl.Settled(v, rules)
	found := false
	for _, w := range among {
		if !isAbove(w, v) || !isSteady(w, rules) {
			continue
		}
		if !impl.Steady(w, rules) || !impl.Under(got, w) {
			t.Fatalf("Settled(%v, %v) is %v, but %v is Steady", v, rules, got, w)
		}
		found = found || slices.Equal(got, w)
	}
	if !found {
		t.Fatalf("Settled(%v, %v) is %v, none of those that are Steady", v, rules, got)
	}
}

// Promise 6: of all vectors above it that are Steady, Settled is the least.
func TestSettledIsTheLeastThatIsSteady(t *testing.T) {
	lot := rand.New(rand.NewSource(61))
	among := allLists[int64](8, 0, 1, 2)
	for range 120 {
		checkLeast(t, drawnNumbers(lot, 1), drawnRules(lot, 1+lot.Intn(12), 8, 1, 2), among)
	}
	// Here few numbers have more room to grow, and the others stay.
	for _, places := range []int{1, 2, 3} {
		among = allLists[int64](places, 0, 1, 2, 3, 4, 5, 6, 7, 8, 9)
		for i, w := range among {
			among[i] = append(w, repeated(4, 8-places)...)
		}
		for range 150 {
			v := repeated(4, 8)
			copy(v, drawnNumbers(lot, 3)[:places])
			rules := drawnRules(lot, 1+lot.Intn(8), 8, 4, 9)
			for i := range rules {
				rules[i].To %= int64(places)
			}
			checkLeast(t, v, rules, among)
		}
	}
}

// A vector that has more comes to more, or to the same.
func TestSettledKeepsTheOrder(t *testing.T) {
	lot := rand.New(rand.NewSource(62))
	for range 1000 {
		rules := drawnRules(lot, lot.Intn(21), 8, 5, 60)
		v, w := drawnNumbers(lot, 40), drawnNumbers(lot, 40)
		low, high := impl.Settled(v, rules), impl.Settled(impl.Join(v, w), rules)
		if !impl.Under(low, high) {
			t.Fatalf("by %v: %v comes to %v, but more than it to %v", rules, v, low, high)
		}
		both := impl.Meet(low, impl.Settled(w, rules))
		if !impl.Steady(both, rules) {
			t.Fatalf("by %v: %v and %v settle, but not their Meet %v", rules, v, w, both)
		}
	}
}

// firstThatChanges goes through the Rules from one on, and round.
func firstThatChanges(v []int64, rules []impl.Rule, from int) int {
	for i := range rules {
		k := (from + i) % len(rules)
		if !slices.Equal(lifted(v, rules[k]), v) {
			return k
		}
	}
	return -1
}

// fireAll fires one Rule after the other, as next chooses where to begin looking behind the last one.
func fireAll(t *testing.T, v []int64, rules []impl.Rule, next func(last int) int) {
	t.Helper()
	end := impl.Settled(v, rules)
	now := v
	for k := firstThatChanges(now, rules, 0); k >= 0; k = firstThatChanges(now, rules, next(k)) {
		want := lifted(now, rules[k])
		if got := impl.Fired(now, rules[k]); !slices.Equal(got, want) {
			t.Fatalf("Fired(%v, %v) is %v, not %v", now, rules[k], got, want)
		}
		now = want
		if !impl.Under(now, end) {
			t.Fatalf("%v by %v goes over %v, but is Settled at %v", v, rules, now, end)
		}
	}
	if !slices.Equal(now, end) {
		t.Fatalf("%v by %v comes to %v, but is Settled at %v", v, rules, now, end)
	}
}

// Promise 6: Rules fired in whatever order come to Settled, and nothing on the way goes above it.
func TestRulesFiredInWhateverOrder(t *testing.T) {
	lot := rand.New(rand.NewSource(63))
	forFixpoints(func(v []int64, rules []impl.Rule) {
		count := len(rules)
		fireAll(t, v, rules, func(int) int { return 0 })
		fireAll(t, v, rules, func(last int) int { return last })
		fireAll(t, v, rules, func(last int) int { return last + 1 })
		fireAll(t, v, rules, func(last int) int { return last + count - 1 })
		fireAll(t, v, rules, func(int) int { return lot.Intn(count) })
	})
}

// Promise 6: nor does it hang on how the list of Rules is written.
func TestSettledByRulesInWhateverOrder(t *testing.T) {
	lot := rand.New(rand.NewSource(64))
	forFixpoints(func(v []int64, rules []impl.Rule) {
		want := raised(v, rules)
		turned := slices.Clone(rules)
		slices.Reverse(turned)
		shuffled := slices.Clone(rules)
		lot.Shuffle(len(rules), func(i, k int) { shuffled[i], shuffled[k] = shuffled[k], shuffled[i] })
		doubled := slices.Concat(rules, turned)
		for _, others := range [][]impl.Rule{turned, shuffled, doubled[:min(20, len(doubled))]} {
			if got := impl.Settled(v, others); !slices.Equal(got, want) {
				t.Fatalf("Settled(%v, %v) is %v, not %v", v, others, got, want)
			}
		}
	})
}

func TestFixpointsWrittenOut(t *testing.T) {
	cases := []struct {
		rules []impl.Rule
		v     []int64
		want  []int64
	}{
		{nil, []int64{8, 7, 6, 5, 4, 3, 2, 1}, []int64{8, 7, 6, 5, 4, 3, 2, 1}},
		{[]impl.Rule{}, repeated(most, 8), repeated(most, 8)},
		{[]impl.Rule{rule(0, 1, 3, 100), rule(2, 0, 0, 4), rule(1, 2, 1, 6)}, []int64{0, 2, 0, 0, 0, 0, 0, 0}, []int64{8, 5, 4, 0, 0, 0, 0, 0}},
		{[]impl.Rule{rule(0, 1, 100, 50)}, repeated(0, 8), []int64{50, 0, 0, 0, 0, 0, 0, 0}},
		{[]impl.Rule{rule(0, 1, 100, 101)}, repeated(0, 8), []int64{100, 0, 0, 0, 0, 0, 0, 0}},
		{[]impl.Rule{rule(0, 1, 100, 0)}, repeated(0, 8), repeated(0, 8)},
		{[]impl.Rule{rule(0, 1, 100, 5)}, []int64{6, 9, 0, 0, 0, 0, 0, 0}, []int64{6, 9, 0, 0, 0, 0, 0, 0}},
		{[]impl.Rule{rule(4, 4, 0, most)}, repeated(3, 8), repeated(3, 8)},
		{[]impl.Rule{rule(4, 4, 7, 20)}, repeated(3, 8), []int64{3, 3, 3, 3, 20, 3, 3, 3}},
		{[]impl.Rule{rule(4, 4, 7, 20)}, repeated(21, 8), repeated(21, 8)},
		{ringed(1, 30, 0, 1), []int64{0, 0, 31, 0, 0, 0, 0, 0}, []int64{30, 30, 31, 0, 0, 0, 0, 0}},
		{[]impl.Rule{rule(1, 0, 1, 30), rule(0, 1, 1, 17)}, repeated(0, 8), []int64{17, 18, 0, 0, 0, 0, 0, 0}},
		{ringed(100, most, 7, 0), []int64{0, 1, 2, 3, 4, 5, 6, 7}, []int64{most, 1, 2, 3, 4, 5, 6, most}},
		{[]impl.Rule{rule(0, 1, 100, most)}, []int64{most, most, 0, 0, 0, 0, 0, 0}, []int64{most, most, 0, 0, 0, 0, 0, 0}},
		{[]impl.Rule{rule(0, 1, 100, most)}, []int64{0, most, 0, 0, 0, 0, 0, 0}, []int64{most, most, 0, 0, 0, 0, 0, 0}},
		{[]impl.Rule{rule(0, 1, 100, most)}, []int64{0, most - 101, 0, 0, 0, 0, 0, 0}, []int64{most - 1, most - 101, 0, 0, 0, 0, 0, 0}},
	}
	for _, c := range cases {
		if got := impl.Settled(c.v, c.rules); !slices.Equal(got, c.want) {
			t.Errorf("Settled(%v, %v) is %v, not %v", c.v, c.rules, got, c.want)
		}
		if impl.Steady(c.v, c.rules) != slices.Equal(c.v, c.want) || !impl.Steady(c.want, c.rules) {
			t.Errorf("of %v: Steady of %v is %v, of %v %v", c.rules, c.v, impl.Steady(c.v, c.rules), c.want, impl.Steady(c.want, c.rules))
		}
	}
}

// Circles climb by their least step up to their Most, and that is as great as it may be.
func TestCirclesThatClimbFar(t *testing.T) {
	slow := ringed(0, most, 0, 1, 2, 3, 4, 5, 6, 7)
	slow[3].Plus = 1
	many := slices.Repeat([]impl.Rule{rule(6, 6, 1, most)}, 20)
	twenty := append(ringed(1, most, 0, 1, 2, 3, 4, 5, 6, 7), ringed(1, most-1, 7, 6, 5, 4, 3, 2, 1, 0)...)
	twenty = append(twenty, ringed(1, most-2, 0, 4, 2, 6)...)
	cases := []struct {
		rules []impl.Rule
		want  []int64
	}{
		{slow, repeated(most, 8)},
		{ringed(1, most, 0, 1, 2, 3, 4, 5, 6, 7), repeated(most, 8)},
		{ringed(100, most-1, 0, 2, 4, 6), []int64{most - 1, 0, most - 1, 0, most - 1, 0, most - 1, 0}},
		{many, []int64{0, 0, 0, 0, 0, 0, most, 0}},
		{twenty, repeated(most, 8)},
		{[]impl.Rule{rule(1, 0, 1, 999), rule(0, 1, 0, most), rule(2, 1, 100, most), rule(3, 2, 0, 1000)}, []int64{999, 999, 1099, 1000, 0, 0, 0, 0}},
	}
	for _, c := range cases {
		if got := impl.Settled(repeated(0, 8), c.rules); !slices.Equal(got, c.want) {
			t.Errorf("Settled of noughts by %v is %v, not %v", c.rules, got, c.want)
		}
	}
}

// wrongRules are right but for one place.
func wrongRules() []impl.Rule {
	var out []impl.Rule
	for _, n := range []int64{math.MinInt64, math.MinInt64 + 1, -1000000, -8, -1, 8, 9, 100, most, math.MaxInt64 - 1, math.MaxInt64} {
		out = append(out, rule(n, 0, 0, 0), rule(n, 3, 2, 9), rule(0, n, 0, 0), rule(3, n, 2, 9))
	}
	for _, n := range []int64{math.MinInt64, -100, -1, 101, most, math.MaxInt64} {
		out = append(out, rule(0, 0, n, 0), rule(3, 4, n, 9))
	}
	for _, n := range []int64{math.MinInt64, -most, -1, most + 1, math.MaxInt64} {
		out = append(out, rule(0, 0, 0, n), rule(3, 4, 2, n))
	}
	return append(out, rule(8, 8, 101, most+1), rule(-1, -1, -1, -1),
		rule(math.MaxInt64, math.MaxInt64, math.MaxInt64, math.MaxInt64), rule(math.MinInt64, math.MinInt64, math.MinInt64, math.MinInt64))
}

func TestRulesOkAtTheLimits(t *testing.T) {
	if !impl.RulesOk(nil) || !impl.RulesOk([]impl.Rule{}) {
		t.Error("RulesOk of none is false")
	}
	for to := range int64(8) {
		for from := range int64(8) {
			for _, plus := range []int64{0, 1, 99, 100} {
				for _, limit := range []int64{0, 1, most - 1, most} {
					if r := rule(to, from, plus, limit); !impl.RulesOk([]impl.Rule{r}) {
						t.Errorf("RulesOk of %v is false", r)
					}
				}
			}
		}
	}
	for count := range 60 {
		for _, r := range []impl.Rule{{}, rule(7, 7, 100, most), rule(2, 5, 1, 30)} {
			if got := impl.RulesOk(slices.Repeat([]impl.Rule{r}, count)); got != (count <= 20) {
				t.Errorf("RulesOk of %d times %v is %v", count, r, got)
			}
		}
	}
}

func checkNotRuled(t *testing.T, v []int64, rules []impl.Rule) {
	t.Helper()
	if got := impl.Settled(v, rules); len(got) != 0 {
		t.Errorf("Settled(%v, %v) is %v", v, rules, got)
	}
	if impl.Steady(v, rules) {
		t.Errorf("Steady(%v, %v) is true", v, rules)
	}
}

func checkNotFired(t *testing.T, v []int64, r impl.Rule) {
	t.Helper()
	if got := impl.Fired(v, r); len(got) != 0 {
		t.Errorf("Fired(%v, %v) is %v", v, r, got)
	}
}

// Promise 21: one Rule that is none spoils the list, wherever it stands.
func TestWrongRules(t *testing.T) {
	for _, wrong := range wrongRules() {
		for _, v := range fixVectors() {
			checkNotFired(t, v, wrong)
		}
		for _, count := range []int{1, 2, 3, 19, 20} {
			for place := range count {
				rules := slices.Repeat([]impl.Rule{rule(1, 2, 1, 9)}, count)
				rules[place] = wrong
				if impl.RulesOk(rules) {
					t.Errorf("RulesOk(%v) is true", rules)
				}
				checkNotRuled(t, repeated(0, 8), rules)
				checkNotRuled(t, repeated(most, 8), rules)
			}
		}
	}
}

func TestTooManyRules(t *testing.T) {
	for _, count := range []int{20, 21, 22, 40, 1000} {
		rules := slices.Repeat([]impl.Rule{rule(1, 1, 1, 5)}, count)
		if count > 20 {
			checkNotRuled(t, repeated(0, 8), rules)
			checkNotRuled(t, repeated(5, 8), rules)
			continue
		}
		if got := impl.Settled(repeated(0, 8), rules); !slices.Equal(got, []int64{0, 5, 0, 0, 0, 0, 0, 0}) {
			t.Errorf("Settled of noughts by %d Rules is %v", count, got)
		}
		if impl.Steady(repeated(0, 8), rules) || !impl.Steady(repeated(5, 8), rules) {
			t.Errorf("Steady by %d Rules is wrong", count)
		}
	}
}

// notOfEight are vectors, but of another length, and what is no vector at all.
func notOfEight() [][]int64 {
	out := noVectors()
	for _, length := range []int{1, 2, 3, 4, 5, 6, 7, 9, 10, 16} {
		for _, n := range []int64{0, 5, most} {
			out = append(out, repeated(n, length))
		}
	}
	for place := range 8 {
		for _, n := range []int64{math.MinInt64, -1, most + 1, math.MaxInt64} {
			v := repeated(5, 8)
			v[place] = n
			out = append(out, v)
		}
	}
	return out
}

// Promise 21: what is no vector of 8 has the fixed answers, also by no Rule, and by Rules that look elsewhere or are wrong, too.
func TestVectorsNotOfEight(t *testing.T) {
	lists := append(fixRules(), []impl.Rule{rule(0, 0, 0, 0)}, []impl.Rule{rule(7, 7, 100, most)}, wrongRules()[:1], slices.Repeat([]impl.Rule{{}}, 21))
	for _, v := range notOfEight() {
		for _, rules := range lists {
			checkNotRuled(t, v, rules)
			for _, r := range rules {
				checkNotFired(t, v, r)
			}
		}
		for _, r := range wrongRules() {
			checkNotFired(t, v, r)
		}
	}
}

func fixAnswers(v []int64, rules []impl.Rule) [][]int64 {
	out := [][]int64{impl.Settled(v, rules)}
	for _, r := range append(slices.Clone(rules), rule(0, 7, 3, most)) {
		out = append(out, impl.Fired(v, r))
	}
	return out
}

func fixCases() (lists [][]int64, rules [][]impl.Rule) {
	lists = append(append(fixVectors(), notOfEight()...), nil, []int64{})
	wrong := []impl.Rule{rule(1, 2, 1, 9), rule(1, 8, 1, 9), rule(3, 2, 1, 9)}
	return lists, append(fixRules(), wrong, slices.Repeat([]impl.Rule{rule(1, 1, 1, 5)}, 21), wrongRules())
}

// Promise 21: arguments stay, and so does the spare room behind them.
func TestFixpointArgumentsStay(t *testing.T) {
	lists, ruleLists := fixCases()
	for _, list := range lists {
		for _, some := range ruleLists {
			v, rules := roomy(list), roomyWith(some, rule(1, 0, 1, 9))
			wasV, wasRules := whole(v), whole(rules)
			impl.RulesOk(rules)
			impl.Steady(v, rules)
			fixAnswers(v, rules)
			if !slices.Equal(whole(v), wasV) || !slices.Equal(whole(rules), wasRules) {
				t.Fatalf("%v became %v, or %v became %v", wasV, whole(v), wasRules, whole(rules))
			}
		}
	}
}

// Promise 21: writing over an answer, and the room behind it, changes no argument and no other answer.
func TestFixpointAnswersAreNewMemory(t *testing.T) {
	lists, ruleLists := fixCases()
	for _, list := range lists {
		for _, some := range ruleLists {
			v, rules := roomy(list), roomyWith(some, rule(1, 0, 1, 9))
			wasV := whole(v)
			earlier := fixAnswers(v, rules)
			want := copied(earlier)
			for i, answer := range fixAnswers(v, rules) {
				scribble(answer)
				if !slices.Equal(whole(v), wasV) {
					t.Fatalf("answer %d shares memory with %v", i, wasV)
				}
				if !alikeLists(earlier, want) || !alikeLists(fixAnswers(v, rules), want) {
					t.Fatalf("of %v: answer %d shares memory with another one", wasV, i)
				}
			}
		}
	}
}
