package tests

import (
	"fmt"
	"go/ast"
	"go/parser"
	"go/token"
	"maps"
	"math"
	"math/rand"
	"path/filepath"
	"reflect"
	"slices"
	"strconv"
	"strings"
	"testing"
	"unsafe"

	"loop.example/g00266/impl"
)

// everyFunction is each function of the package, by its name.
func everyFunction() map[string]any {
	return map[string]any{
		"VectorOk": impl.VectorOk, "Join": impl.Join, "Meet": impl.Meet, "Under": impl.Under, "Least": impl.Least, "Sum": impl.Sum,
		"TraceOk": impl.TraceOk, "Ahead": impl.Ahead, "Stamps": impl.Stamps, "Order": impl.Order, "Past": impl.Past,
		"Clocks": impl.Clocks, "Earlier": impl.Earlier, "Apart": impl.Apart, "Newest": impl.Newest,
		"CutOk": impl.CutOk, "Within": impl.Within, "Around": impl.Around, "Flying": impl.Flying,
		"Frame": impl.Frame, "Check": impl.Check, "Frames": impl.Frames, "Torn": impl.Torn,
		"RulesOk": impl.RulesOk, "Fired": impl.Fired, "Settled": impl.Settled, "Steady": impl.Steady,
		"SeqOf": impl.SeqOf, "SenderOf": impl.SenderOf, "IndexOf": impl.IndexOf, "Ready": impl.Ready, "Woven": impl.Woven,
		"WindowOk": impl.WindowOk, "Open": impl.Open, "Sent": impl.Sent, "Acked": impl.Acked,
		"Rounds": impl.Rounds, "Parent": impl.Parent, "Children": impl.Children, "Calls": impl.Calls, "Depth": impl.Depth,
		"RelayOk": impl.RelayOk, "NewRelay": impl.NewRelay, "Turn": impl.Turn, "Full": impl.Full, "Chain": impl.Chain,
		"Split": impl.Split, "Lacking": impl.Lacking, "Joined": impl.Joined,
		"LogOk": impl.LogOk, "Added": impl.Added, "TextAt": impl.TextAt, "Shorter": impl.Shorter, "Cut": impl.Cut, "ShowLog": impl.ShowLog, "Recovered": impl.Recovered,
		"RowsOk": impl.RowsOk, "Stable": impl.Stable, "Column": impl.Column, "Lag": impl.Lag,
		"ViewOk": impl.ViewOk, "Leader": impl.Leader, "Majority": impl.Majority, "After": impl.After, "Rank": impl.Rank,
		"Trim": impl.Trim, "Song": impl.Song, "Covers": impl.Covers, "Dropped": impl.Dropped,
		"RowOk": impl.RowOk, "NewRow": impl.NewRow, "Follows": impl.Follows, "Later": impl.Later,
		"MemberOk": impl.MemberOk, "NewMember": impl.NewMember, "Say": impl.Say, "Doubt": impl.Doubt, "Heard": impl.Heard, "Step": impl.Step, "Voice": impl.Voice,
		"GroupOk": impl.GroupOk, "NewGroup": impl.NewGroup, "Happen": impl.Happen, "Play": impl.Play, "Calm": impl.Calm,
		"OneSong": impl.OneSong, "OneEnd": impl.OneEnd, "Sound": impl.Sound, "Ended": impl.Ended,
		"Bench": impl.Bench,
	}
}

// rightOnes are arguments as the chapters want them: so what is asked with them is mostly not refused, and has answers with memory.
func rightOnes(t *testing.T) []any {
	t.Helper()
	trace := []impl.Event{{Node: 0, Kind: impl.EvSend, Mail: 1}, {Node: 1, Kind: impl.EvLocal}, {Node: 1, Kind: impl.EvHear, Mail: 1}, {Node: 0, Kind: impl.EvLocal}, {Node: 1, Kind: impl.EvSend, Mail: 7}}
	relay, _ := impl.NewRelay(3, 4)
	turned, _ := impl.Turn(relay, impl.Chain(relay))
	rules := []impl.Rule{{To: 0, From: 1, Plus: 3, Most: 100}, {To: 2, From: 0, Most: 4}}
	singing := saidGroup(t, 2, 1, 1)
	out := []any{int64(0), int64(1), int64(2), int64(3), trace, rules, rules[0], relay, turned, impl.Relay{Nodes: 2, Blocks: 2, Have: [][]int64{{0, 1}, {0, 1}}}, impl.Chain(relay), impl.Chain(turned), impl.Window{Size: 3, Sent: 5, Acked: []int64{4, 5, 2}}, impl.Window{Size: 1},
		impl.Log{First: 4, Texts: []string{"a", "bc", ""}}, impl.Log{First: 1}, impl.View{Id: 3, Members: []int64{1, 4, 6}}, impl.Split("abcdefg", 3), impl.Split("", 1),
		[][]int64{{3, 2, 2}, {2, 4, 2}, {1, 1, 1}}, [][]int64{{3, 2}, {2, 4}}, []bool{true, true, false}, []bool{true, false}, []int64{2, 1, 3}, []int64{1, 2, 2}, []int64{1, 1}, []int64{0, 2, 0, 0, 0, 0, 0, 0}, []int64{2, 3, 0, 0, 0, 0, 0, 0}, []int64{1, 0, 0, 0, 0, 0, 0, 0},
		[]impl.Act{say(0, "la"), act(impl.AcAll, 0, 0), act(impl.AcLand, 0, 1), act(impl.AcStep, 1, 0), act(impl.AcDoubt, 1, 0)}, act(impl.AcPush, 1, 0), act(impl.AcLand, 0, 1), say(2, "x"), act(impl.AcStep, 0, 0),
		singing, impl.Calm(singing), fullGroup(3), fullGroup(1), fullMember(3, 1), midRow(3), fullRow(3), bareRow(2), singing.Members[0], impl.Calm(singing).Members[1],
		"la la", "2 704\nhe\n", impl.ShowLog(impl.Log{First: 4, Texts: []string{"a", "bc"}}), impl.Frame("hey") + impl.Frame("x") + "3", endedScript + "song 1\ntrim 1\nonesong\n"}
	for i, g := range groupCases(t) {
		if i%6 == 0 {
			out = append(out, g)
			for _, m := range g.Members {
				out = append(out, m, ownRow(m))
			}
			out = append(out, g.Mails)
		}
	}
	return out
}

// An arsenal has arguments of each type: right ones, which come first, and such as are at an end of what there is.
type arsenal struct {
	lot    *rand.Rand
	values map[reflect.Type][]reflect.Value
	right  map[reflect.Type]int
}

func newArsenal(t *testing.T) *arsenal {
	a := &arsenal{rand.New(rand.NewSource(211)), map[reflect.Type][]reflect.Value{}, map[reflect.Type]int{}}
	for _, one := range rightOnes(t) {
		a.add(reflect.ValueOf(one))
	}
	for typ, values := range a.values {
		a.right[typ] = len(values)
	}
	for _, one := range []any{int64(math.MinInt64), int64(math.MinInt64 + 1), int64(-1000000), int64(-1), int64(4), int64(5), int64(8), int64(12), int64(20), int64(1000), int64(1000000), int64(1000001), int64(math.MaxInt64 - 1), int64(math.MaxInt64),
		false, true, "", "x", "\x00\xff\n", strings.Repeat("x", 20), strings.Repeat("x", 21), strings.Repeat("\n", 300), strings.Repeat("y", 30000), "9223372036854775807 9223372036854775807\nx\n"} {
		a.add(reflect.ValueOf(one))
	}
	for _, list := range [][]int64{{math.MaxInt64}, {math.MinInt64}, {math.MinInt64, math.MaxInt64, -1}, {-1}, {0}, repeated(0, 8), repeated(math.MaxInt64, 8), repeated(math.MinInt64, 3), repeated(1, 9), firstNumbers(300)} {
		a.add(reflect.ValueOf(list))
	}
	return a
}

// add takes a copy, with room behind each list that is marked.
func (a *arsenal) add(v reflect.Value) {
	a.values[v.Type()] = append(a.values[v.Type()], a.roomyValue(v))
}

func (a *arsenal) roomyValue(v reflect.Value) reflect.Value {
	out := reflect.New(v.Type()).Elem()
	switch v.Kind() {
	case reflect.Slice:
		if v.IsNil() {
			return out
		}
		list := reflect.MakeSlice(v.Type(), v.Len()+3, v.Len()+3)
		for i := range list.Len() {
			if i < v.Len() {
				list.Index(i).Set(a.roomyValue(v.Index(i)))
			} else if list.Index(i).Kind() == reflect.Int64 {
				list.Index(i).SetInt(spareMark)
			}
		}
		return list.Slice(0, v.Len())
	case reflect.Struct:
		for i := range v.NumField() {
			out.Field(i).Set(a.roomyValue(v.Field(i)))
		}
	case reflect.String:
		out.SetString(written(roomyWith([]byte(v.String()), 'm')))
	default:
		out.Set(v)
	}
	return out
}

// of has all of a type. Those of a struct are right ones and the zero one, each with one field as it should not be; those of a list are nil, empty, short, mixed and long.
func (a *arsenal) of(typ reflect.Type) []reflect.Value {
	bases := a.values[typ]
	if typ.Kind() == reflect.Struct {
		zero := reflect.New(typ).Elem()
		for _, base := range append(slices.Clone(bases[:min(len(bases), 12)]), zero) {
			a.addStructs(base)
		}
	} else if typ.Kind() == reflect.Slice {
		a.addLists(typ)
	}
	return a.values[typ]
}

func (a *arsenal) addStructs(base reflect.Value) {
	typ := base.Type()
	a.add(base)
	for i := range typ.NumField() {
		for _, value := range a.some(typ.Field(i).Type, 9) {
			changed := reflect.New(typ).Elem()
			changed.Set(base)
			changed.Field(i).Set(value)
			a.add(changed)
		}
	}
}

func (a *arsenal) addLists(typ reflect.Type) {
	a.add(reflect.Zero(typ))
	a.add(reflect.MakeSlice(typ, 0, 0))
	for _, length := range []int{1, 1, 1, 2, 3, 4, 5, 8, 9, 12, 13} {
		list := reflect.MakeSlice(typ, 0, length)
		alike := a.some(typ.Elem(), 1)[0]
		for _, one := range a.some(typ.Elem(), length) {
			if length%2 == 0 {
				one = alike
			}
			list = reflect.Append(list, one)
		}
		a.add(list)
	}
	long := reflect.MakeSlice(typ, 0, 450)
	for one := a.some(typ.Elem(), 1)[0]; long.Len() < 450; {
		long = reflect.Append(long, one)
	}
	a.add(long)
}

// some are so many of a type, drawn from those that there are; where there is none of it, they are made first.
func (a *arsenal) some(typ reflect.Type, count int) []reflect.Value {
	if len(a.values[typ]) < 8 {
		a.of(typ)
	}
	all, out := a.values[typ], []reflect.Value{}
	for range count {
		out = append(out, all[a.lot.Intn(len(all))])
	}
	return out
}

// A span is a piece of memory.
type span struct{ from, to uintptr }

// spansOf are the lists of a value with all their room, and its texts.
func spansOf(v reflect.Value) []span {
	var out []span
	switch v.Kind() {
	case reflect.Slice:
		if v.Cap() > 0 {
			out = append(out, span{v.Pointer(), v.Pointer() + uintptr(v.Cap())*v.Type().Elem().Size()})
		}
		for i := range v.Len() {
			out = append(out, spansOf(v.Index(i))...)
		}
	case reflect.Struct:
		for i := range v.NumField() {
			out = append(out, spansOf(v.Field(i))...)
		}
	case reflect.String:
		if v.Len() > 0 {
			at := uintptr(unsafe.Pointer(unsafe.StringData(v.String())))
			out = append(out, span{at, at + uintptr(v.Len())})
		}
	}
	return out
}

func allSpans(values []reflect.Value) []span {
	var out []span
	for _, v := range values {
		out = append(out, spansOf(v)...)
	}
	return out
}

// areApart is false where two of these have memory in common.
func areApart(spans []span) bool {
	slices.SortFunc(spans, func(a, b span) int {
		if a.from < b.from {
			return -1
		}
		return 1
	})
	for i := range len(spans) - 1 {
		if spans[i].to > spans[i+1].from {
			return false
		}
	}
	return true
}

// joinedSpans puts those together that have memory in common: arguments may share with one another.
func joinedSpans(spans []span) []span {
	slices.SortFunc(spans, func(a, b span) int {
		if a.from < b.from {
			return -1
		}
		return 1
	})
	var out []span
	for _, s := range spans {
		if last := len(out) - 1; last >= 0 && s.from < out[last].to {
			out[last].to = max(out[last].to, s.to)
		} else {
			out = append(out, s)
		}
	}
	return out
}

// wholeTold is a value with all that lies in the room behind its lists.
func wholeTold(v reflect.Value) string {
	var out strings.Builder
	tellWhole(&out, v)
	return out.String()
}

func tellWhole(out *strings.Builder, v reflect.Value) {
	switch v.Kind() {
	case reflect.Slice:
		fmt.Fprint(out, "[", v.Len(), ":")
		all := v.Slice(0, v.Cap())
		for i := range v.Cap() {
			tellWhole(out, all.Index(i))
		}
		out.WriteString("]")
	case reflect.Struct:
		out.WriteString("{")
		for i := range v.NumField() {
			tellWhole(out, v.Field(i))
		}
		out.WriteString("}")
	case reflect.String:
		fmt.Fprint(out, v.Len(), v.String())
	case reflect.Int64:
		out.WriteString(strconv.FormatInt(v.Int(), 10) + ",")
	default:
		fmt.Fprint(out, v.Interface(), ",")
	}
}

// callsOf are lists of arguments for a function: each value that there is of each argument comes up, together with others that are drawn, mostly right ones.
func (a *arsenal) callsOf(function reflect.Type, count int) [][]reflect.Value {
	var pools [][]reflect.Value
	most := count
	for i := range function.NumIn() {
		if len(a.values[function.In(i)]) < 60 {
			a.of(function.In(i))
		}
		pools = append(pools, a.values[function.In(i)])
		most = max(most, len(pools[i]))
	}
	var out [][]reflect.Value
	for which := range pools {
		for at := range most {
			var list []reflect.Value
			for i, pool := range pools {
				pick := a.lot.Intn(len(pool))
				if i == which {
					pick = at % len(pool)
				} else if right := a.right[function.In(i)]; right > 0 && at%2 == 0 {
					pick = a.lot.Intn(right)
				}
				list = append(list, pool[pick])
			}
			out = append(out, list)
		}
	}
	return out
}

// answersOf fails where a call panics.
func answersOf(t *testing.T, name string, function reflect.Value, args []reflect.Value) (answers []reflect.Value) {
	t.Helper()
	defer func() {
		if why := recover(); why != nil {
			t.Fatalf("%s panics: %v", name, why)
		}
	}()
	return function.Call(args)
}

func interfacesOf(values []reflect.Value) []any {
	var out []any
	for _, v := range values {
		out = append(out, v.Interface())
	}
	return out
}

func toldWhole(values []reflect.Value) []string {
	var out []string
	for _, v := range values {
		out = append(out, wholeTold(v))
	}
	return out
}

// checkCall asks the same twice: the arguments stay, and both answers are alike and share nothing.
func checkCall(t *testing.T, name string, function reflect.Value, args []reflect.Value) []reflect.Value {
	t.Helper()
	was := toldWhole(args)
	first := answersOf(t, name, function, args)
	told := toldWhole(first)
	again := answersOf(t, name, function, args)
	if !slices.Equal(toldWhole(args), was) {
		t.Fatalf("%s changed an argument: %s became %s", name, shortened(fmt.Sprint(was)), shortened(fmt.Sprint(toldWhole(args))))
	}
	if !reflect.DeepEqual(interfacesOf(first), interfacesOf(again)) || !slices.Equal(toldWhole(first), told) {
		t.Fatalf("%s of %s is %s, and then %s", name, shortened(fmt.Sprint(was)), shortened(fmt.Sprint(told)), shortened(fmt.Sprint(toldWhole(again))))
	}
	answered := slices.Concat(allSpans(first), allSpans(again))
	if !areApart(answered) || !areApart(slices.Concat(joinedSpans(allSpans(args)), answered)) {
		t.Fatalf("an answer of %s shares memory: of %s it is %s", name, shortened(fmt.Sprint(was)), shortened(fmt.Sprint(told)))
	}
	return first
}

// Promise 21, of the functions of all chapters: each answers at every argument, keeps its arguments, and shares no memory; and it answers so again.
func TestEveryFunctionAtEveryArgument(t *testing.T) {
	a := newArsenal(t)
	functions := everyFunction()
	// In the order of their names, so that each run draws the same.
	for _, name := range slices.Sorted(maps.Keys(functions)) {
		function := reflect.ValueOf(functions[name])
		seen, spans := map[string]bool{}, 0
		for _, args := range a.callsOf(function.Type(), 150) {
			answers := checkCall(t, name, function, args)
			seen[fmt.Sprint(interfacesOf(answers))] = true
			spans += len(allSpans(answers))
		}
		first := function.Type().Out(0).Kind()
		if hasMemory := first == reflect.Slice || first == reflect.String || first == reflect.Struct; len(seen) < 2 || hasMemory && spans < 3 {
			t.Fatalf("%s has only %d answers, of %d lists and texts", name, len(seen), spans)
		}
	}
}

// No function is left out above, and none keeps the body that it had when nothing was built yet.
func TestEveryFunctionIsAsked(t *testing.T) {
	files, err := filepath.Glob("../impl/*.go")
	if err != nil || len(files) != 20 {
		t.Fatalf("these are the files: %v, %v", files, err)
	}
	functions, found := everyFunction(), 0
	for _, name := range files {
		file, err := parser.ParseFile(token.NewFileSet(), name, nil, 0)
		if err != nil {
			t.Fatal(err)
		}
		for _, d := range file.Decls {
			f, ok := d.(*ast.FuncDecl)
			if !ok || f.Recv != nil || !f.Name.IsExported() {
				continue
			}
			found++
			if functions[f.Name.Name] == nil {
				t.Fatalf("%s is not asked", f.Name.Name)
			}
			if isEmptyBody(f) {
				t.Fatalf("%s has an empty body", f.Name.Name)
			}
		}
	}
	if found != len(functions) {
		t.Fatalf("there are %d functions, and %d are asked", found, len(functions))
	}
}

// isEmptyBody is true where nothing that comes in is used.
func isEmptyBody(f *ast.FuncDecl) bool {
	params := map[string]bool{}
	for _, field := range f.Type.Params.List {
		for _, name := range field.Names {
			params[name.Name] = true
		}
	}
	used := false
	ast.Inspect(f.Body, func(n ast.Node) bool {
		if name, ok := n.(*ast.Ident); ok && params[name.Name] {
			used = true
		}
		return true
	})
	return !used
}
