package tests

import (
	"fmt"
	"math/rand"
	"slices"
	"strconv"
	"strings"
	"testing"

	"loop.example/g00266/impl"
)

// lineOf is an Act as a line of the bench.
func lineOf(a impl.Act) string {
	word := map[int64]string{impl.AcSay: "say", impl.AcPush: "push", impl.AcLand: "land", impl.AcStep: "step", impl.AcDoubt: "doubt", impl.AcCrash: "crash", impl.AcAll: "all"}[a.Kind]
	switch {
	case a.Kind == impl.AcSay:
		return fmt.Sprintf("%s %d %s", word, a.A, a.Text)
	case usesB(a.Kind):
		return fmt.Sprintf("%s %d %d", word, a.A, a.B)
	default:
		return fmt.Sprintf("%s %d", word, a.A)
	}
}

// answerOf is what the table tells of an Act that led from one group to the next one.
func answerOf(a impl.Act, next impl.Group, code int64) string {
	if code != 0 {
		return "error"
	}
	m := next.Members[a.A]
	switch a.Kind {
	case impl.AcSay:
		return fmt.Sprint(len(ownRow(m).Texts))
	case impl.AcStep:
		return fmt.Sprint(len(m.Sung))
	case impl.AcDoubt:
		return fmt.Sprint(len(ownRow(m).Suspects))
	case impl.AcCrash:
		return fmt.Sprint(strings.Count(fmt.Sprint(next.Up), "true"))
	}
	return fmt.Sprint(len(next.Mails))
}

// actsTold are the lines of Acts of a new group, each one's answer, and the group behind them.
func actsTold(list []impl.Act) (lines, answers []string, g impl.Group) {
	g, _ = impl.NewGroup(benchSize)
	for _, a := range list {
		next, code := impl.Happen(g, a)
		lines, answers = append(lines, lineOf(a)), append(answers, answerOf(a, next, code))
		g = next
	}
	return lines, answers, g
}

// askedOf are the lines that ask a group, and what the chapters tell of it.
func askedOf(g impl.Group) (lines, answers []string) {
	orError := func(answer string) string {
		if answer == "" {
			return "error"
		}
		return answer
	}
	for who, m := range g.Members {
		song, trim := "", []string{}
		for _, text := range impl.Voice(m) {
			song += "." + text
		}
		for _, n := range ownRow(m).Trim {
			trim = append(trim, fmt.Sprint(n))
		}
		lines = append(lines, fmt.Sprint("song ", who), fmt.Sprint("trim ", who))
		answers = append(answers, orError(song), orError(strings.Join(trim, " ")))
	}
	word := "no"
	if impl.OneSong(g) {
		word = "yes"
	}
	return append(lines, "onesong"), append(answers, word)
}

// checkTellsActs asks that a script of Acts is told as the chapters tell it, what is asked behind it too, and again behind calm.
func checkTellsActs(t *testing.T, what string, list []impl.Act) (behind, calm impl.Group) {
	t.Helper()
	lines, answers, behind := actsTold(list)
	calm = impl.Calm(behind)
	asked, told := askedOf(behind)
	askedInCalm, toldInCalm := askedOf(calm)
	lines = slices.Concat(lines, asked, []string{"calm"}, askedInCalm)
	answers = slices.Concat(answers, told, []string{fmt.Sprint(len(impl.Ended(calm)))}, toldInCalm)
	if got := impl.Bench(endedLines(lines...)); got != endedLines(answers...) {
		t.Fatalf("%s: %q is told so: %q, not %q", what, lines, got, answers)
	}
	return behind, calm
}

// Promises 18 to 20: the scripts of the group, as lines. Nobody sings another song or has another end, and all that is Ready is sung in calm.
func TestBenchTellsScripts(t *testing.T) {
	lot := rand.New(rand.NewSource(201))
	all := tally{}
	for _, c := range tempers() {
		for round := range 25 {
			behind, calm := checkTellsActs(t, c.name, c.script(lot, benchSize, mostOfScript-round%3*40))
			checkListens(t, c.name, behind)
			checkListens(t, c.name, calm)
			if c.doubts == 0 {
				checkSingsAllReady(t, behind)
			}
			all.take(behind)
			all.take(calm)
		}
	}
	if all["sung"] < 100 || all["Done"] < 60 || all["several are Done"] < 40 || all["Done with a song"] < 20 {
		t.Fatalf("only this came up: %v", all)
	}
}

// mostAlike is how many there are, at most, of one of these; errors count for nothing.
func mostAlike(answers []string) int {
	counts, most := map[string]int{}, 0
	for _, answer := range answers {
		if counts[answer]++; answer != "error" {
			most = max(most, counts[answer])
		}
	}
	return most
}

// Promises 18 and 19, read off the text alone: behind each act it is one song; of the songs one begins the other, and as many as have ended have one trim.
func TestBenchTellsOneSong(t *testing.T) {
	lot := rand.New(rand.NewSource(202))
	ends, songsTold := 0, 0
	for _, c := range tempers() {
		for range 12 {
			list, text := c.script(lot, benchSize, 80), ""
			for _, a := range list {
				text += lineOf(a) + "\nonesong\n"
			}
			lines := linesOf(impl.Bench(text + "calm\nsong 0\nsong 1\nsong 2\ntrim 0\ntrim 1\ntrim 2\n"))
			for i := range list {
				if lines[2*i+1] != "yes" {
					t.Fatalf("%s: behind %s, act %d of %s, it is not one song", c.name, lineOf(list[i]), i, text)
				}
			}
			behind := lines[2*len(list):]
			ended, _ := strconv.Atoi(behind[0])
			songs := slices.DeleteFunc(slices.Clone(behind[1:4]), func(s string) bool { return s == "error" })
			slices.Sort(songs)
			for i := range max(0, len(songs)-1) {
				if !strings.HasPrefix(songs[i+1], songs[i]) {
					t.Fatalf("%s: behind %s these are the songs: %q", c.name, text, songs)
				}
			}
			if mostAlike(behind[4:]) < ended {
				t.Fatalf("%s: behind %s %d have ended, and these are the trims: %q", c.name, text, ended, behind[4:])
			}
			if c.doubts == 0 && (ended != 0 || len(slices.Compact(songs)) > 1) {
				t.Fatalf("%s: behind %s, in calm, %d have ended, with these songs: %q", c.name, text, ended, songs)
			}
			ends += min(ended, 1)
			songsTold += len(songs)
		}
	}
	if ends < 20 || songsTold < 100 {
		t.Fatalf("only %d ends and %d songs came up", ends, songsTold)
	}
}

// drawnLine is one of any word of the table, mostly with numbers of the group; and now and then one that is no line of the table.
func drawnLine(lot *rand.Rand) string {
	word := tableWords()[lot.Intn(12)]
	number := func() string {
		if lot.Intn(12) == 0 {
			return []string{"3", "-1", "00", "+1", "x", "", "1000000000", "-0", "\r"}[lot.Intn(9)]
		}
		return fmt.Sprint(lot.Intn(benchSize))
	}
	switch word {
	case "calm", "onesong":
		return word + []string{"", "", "", "", "", "", "", " ", " 0", "x"}[lot.Intn(10)]
	case "say":
		return word + " " + number() + " " + drawnText(lot, lot.Intn(4)+18*(lot.Intn(20)/19))
	case "push", "land", "doubt":
		return word + " " + number() + " " + number()
	case "rounds":
		return word + " " + fmt.Sprint(lot.Intn(1100)-20)
	}
	return word + " " + number() + []string{"", "", "", "", "", "", "", "", "", " 0"}[lot.Intn(10)]
}

// Scripts of many lines in many orders: each line's answer is what the chapters tell.
func TestBenchOfManyDrawnLines(t *testing.T) {
	lot := rand.New(rand.NewSource(203))
	answered, refused := map[string]int{}, map[string]int{}
	for range 300 {
		lines := []string{}
		for range 10 + lot.Intn(mostLines-10) {
			line := strings.ReplaceAll(drawnLine(lot), "\n", "~")
			// Few doubts, few falls and much that lands: else most scripts would soon have nothing left to do.
			if word := strings.Fields(line)[0]; (word == "doubt" || word == "crash") && lot.Intn(8) > 0 {
				line = fmt.Sprintf("land %d %d", lot.Intn(benchSize), lot.Intn(benchSize))
			}
			lines = append(lines, line)
		}
		for i, answer := range checkBench(t, endedLines(lines...)) {
			word := strings.Fields(lines[i])[0]
			if answer == "error" {
				refused[word]++
			} else {
				answered[word]++
			}
		}
	}
	for _, word := range tableWords() {
		if answered[word] < 50 || refused[word] < 10 {
			t.Fatalf("%s: %d have an answer, %d are refused", word, answered[word], refused[word])
		}
	}
}

// An answer hangs on no later line, whether that is a good one or a wrong one.
func TestAnswersHangOnNoLaterLine(t *testing.T) {
	lot := rand.New(rand.NewSource(204))
	for range 12 {
		lines := []string{}
		for range 60 {
			lines = append(lines, strings.ReplaceAll(drawnLine(lot), "\n", ""))
		}
		whole := linesOf(impl.Bench(endedLines(lines...)))
		for count := range len(lines) + 1 {
			text := endedLines(lines[:count]...)
			want := endedLines(whole[:count]...)
			if got := impl.Bench(text); got != want {
				t.Fatalf("the first %d of %q are told so: %q, not %q", count, lines, got, want)
			}
			for _, later := range []string{"calm\n", "x\n", "crash 0\ncrash 1\n", "doubt 0 1\n", "\n\n", "say 0 y"} {
				if got := impl.Bench(text + later); !strings.HasPrefix(got, want) {
					t.Fatalf("ahead of %q the first %d of %q are told so: %q, not %q", later, count, lines, got, want)
				}
			}
		}
	}
}

// A line that has no answer leaves all as it was: so those behind it are told as they are without it.
func TestErrorsLeaveTheGroup(t *testing.T) {
	lot := rand.New(rand.NewSource(205))
	errors := 0
	for range 60 {
		lines := []string{}
		for range 20 + lot.Intn(100) {
			lines = append(lines, strings.ReplaceAll(drawnLine(lot), "\n", ""))
		}
		answers := linesOf(impl.Bench(endedLines(lines...)))
		good, told := []string{}, []string{}
		for i, line := range lines {
			if answers[i] == "error" {
				errors++
				continue
			}
			good, told = append(good, line), append(told, answers[i])
		}
		if got := impl.Bench(endedLines(good...)); got != endedLines(told...) {
			t.Fatalf("without those that have no answer %q is told so: %q, not %q", good, got, told)
		}
	}
	if errors < 500 {
		t.Fatalf("only %d errors came up", errors)
	}
}

func TestLinesInAllOrders(t *testing.T) {
	for _, c := range []struct{ ahead, behind string }{{"", ""}, {sungScript, "calm\n"}, {mailScript, "step 1\nsong 1\n"}, {doubtScript, "calm\ntrim 0\ntrim 1\ntrim 2\n"}} {
		seen := map[string]bool{}
		for _, order := range ordersOf([]string{"say 0 x", "all 0", "land 0 1", "step 1", "doubt 1 0", "crash 0"}) {
			seen[strings.Join(checkBench(t, c.ahead+endedLines(order...)+c.behind+"song 1\nonesong\n"), ",")] = true
		}
		if len(seen) < 20 {
			t.Fatalf("behind %q only %d are told in another way", c.ahead, len(seen))
		}
	}
}

// No call panics, whatever the text, and all small texts of what lines are made of are told as the document tells them.
func TestAllSmallBenches(t *testing.T) {
	for length := range 6 {
		for _, parts := range allLists(length, "say", "calm", "step", " ", "0", "\n") {
			checkBench(t, strings.Join(parts, ""))
		}
	}
	for length := range 5 {
		for _, parts := range allLists(length, "doubt 1 ", "push ", "2", "-", " 0\n", "x", "\r", "\nland 2 0\n") {
			checkBench(t, strings.Join(parts, ""))
		}
	}
}

func TestDrawnBenches(t *testing.T) {
	lot := rand.New(rand.NewSource(206))
	parts := append(tableWords(), " ", " ", " ", " ", "\n", "\n", "\n", "0", "1", "2", "3", "-1", "x", "\r", "\x00", "\xff")
	for range 3000 {
		text := drawnText(lot, lot.Intn(60))
		if lot.Intn(2) == 0 {
			text = ""
			for range lot.Intn(40) {
				text += parts[lot.Intn(len(parts))]
			}
		}
		checkBench(t, text)
	}
	// A good text with bytes that are changed, taken away or put in.
	for range 3000 {
		text := []byte(endedScript + "song 1\ntrim 2\nrounds 12\nonesong\n")
		for range 1 + lot.Intn(3) {
			at, b := lot.Intn(len(text)), " 0123\nxcs\r\x00"[lot.Intn(11)]
			switch lot.Intn(3) {
			case 0:
				text[at] = b
			case 1:
				text = slices.Delete(text, at, at+1)
			default:
				text = slices.Insert(text, at, b)
			}
		}
		checkBench(t, string(text))
	}
}
