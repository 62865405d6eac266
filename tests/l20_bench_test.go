package tests

import (
	"fmt"
	"regexp"
	"runtime"
	"slices"
	"strconv"
	"strings"
	"sync"
	"testing"

	"loop.example/g00266/impl"
)

const (
	mostBench = 20000
	mostLines = 200
	benchSize = 3
)

// A tableLine is a line of the chapter's table: how it is written, and what is done by it and answered.
type tableLine struct {
	form *regexp.Regexp
	do   func(g impl.Group, a, b int64, text string) (impl.Group, string)
}

// formed writes N for a number, of just the form that the document names, and T for a TEXT.
func formed(form string) *regexp.Regexp {
	form = strings.ReplaceAll(form, "N", `(0|-?[1-9][0-9]{0,8})`)
	return regexp.MustCompile(`(?s)\A` + strings.ReplaceAll(form, "T", `(.*)`) + `\z`)
}

// actTable is of the lines that are Acts, each with what it tells of the one that acts.
func actTable() []tableLine {
	mails := func(g impl.Group, _ int64) int { return len(g.Mails) }
	list := []struct {
		form string
		kind int64
		tell func(g impl.Group, a int64) int
	}{
		{"say N T", impl.AcSay, func(g impl.Group, a int64) int { return len(ownRow(g.Members[a]).Texts) }},
		{"push N N", impl.AcPush, mails},
		{"land N N", impl.AcLand, mails},
		{"all N", impl.AcAll, mails},
		{"step N", impl.AcStep, func(g impl.Group, a int64) int { return len(g.Members[a].Sung) }},
		{"doubt N N", impl.AcDoubt, func(g impl.Group, a int64) int { return len(ownRow(g.Members[a]).Suspects) }},
		{"crash N", impl.AcCrash, func(g impl.Group, _ int64) int { return strings.Count(fmt.Sprint(g.Up), "true") }},
	}
	out := []tableLine{}
	for _, line := range list {
		out = append(out, tableLine{formed(line.form), func(g impl.Group, a, b int64, text string) (impl.Group, string) {
			next, code := impl.Happen(g, impl.Act{Kind: line.kind, A: a, B: b, Text: text})
			if code != 0 {
				return g, ""
			}
			return next, strconv.Itoa(line.tell(next, a))
		}})
	}
	return out
}

// askTable is of the other lines. What is nothing has an empty answer here.
func askTable() []tableLine {
	song := func(g impl.Group, a, _ int64, _ string) (impl.Group, string) {
		if a < 0 || a >= benchSize || len(impl.Voice(g.Members[a])) == 0 {
			return g, ""
		}
		return g, "." + strings.Join(impl.Voice(g.Members[a]), ".")
	}
	trim := func(g impl.Group, a, _ int64, _ string) (impl.Group, string) {
		if a < 0 || a >= benchSize {
			return g, ""
		}
		return g, strings.Trim(fmt.Sprint(ownRow(g.Members[a]).Trim), "[]")
	}
	oneSong := func(g impl.Group, _, _ int64, _ string) (impl.Group, string) {
		return g, map[bool]string{true: "yes", false: "no"}[impl.OneSong(g)]
	}
	rounds := func(g impl.Group, n, _ int64, _ string) (impl.Group, string) {
		return g, strings.ReplaceAll(fmt.Sprint(impl.Rounds(n)), "-1", "")
	}
	calm := func(g impl.Group, _, _ int64, _ string) (impl.Group, string) {
		next := impl.Calm(g)
		return next, fmt.Sprint(len(impl.Ended(next)))
	}
	return []tableLine{{formed("calm"), calm}, {formed("song N"), song}, {formed("trim N"), trim}, {formed("onesong"), oneSong}, {formed("rounds N"), rounds}}
}

var chapterTable = append(actTable(), askTable()...)

// A stand is a group that goes on line by line, by the functions of the chapters.
type stand struct{ g impl.Group }

func (s *stand) answer(line string) string {
	for _, entry := range chapterTable {
		parts := entry.form.FindStringSubmatch(line)
		if parts == nil {
			continue
		}
		numbers, text := []int64{0, 0}, ""
		for i, part := range parts[1:] {
			numbers[i], _ = strconv.ParseInt(part, 10, 64)
			text = part
		}
		next, told := entry.do(s.g, numbers[0], numbers[1], text)
		if s.g = next; told != "" {
			return told
		}
	}
	return "error"
}

// linesOf are the lines of a text, those without a byte among them.
func linesOf(text string) []string {
	lines := strings.Split(text, "\n")
	if last := len(lines) - 1; lines[last] == "" {
		lines = lines[:last]
	}
	return lines
}

// benchOf is what the document asks of Bench, answer by answer.
func benchOf(text string) []string {
	lines, out := linesOf(text), []string{}
	if len(text) > mostBench || len(lines) > mostLines {
		return out
	}
	g, _ := impl.NewGroup(benchSize)
	s := stand{g}
	for _, line := range lines {
		if line != "" {
			out = append(out, s.answer(line))
		}
	}
	return out
}

// endedLines has each line with its byte 10.
func endedLines(lines ...string) string {
	out := ""
	for _, line := range lines {
		out += line + "\n"
	}
	return out
}

// checkBench answers what is told, line by line.
func checkBench(t *testing.T, text string) []string {
	t.Helper()
	got, want := impl.Bench(text), benchOf(text)
	if got == endedLines(want...) {
		return want
	}
	for i, answer := range linesOf(got) {
		if i < len(want) && answer != want[i] {
			t.Fatalf("Bench(%s): answer %d is %s, not %s", shortened(text), i, shortened(answer), shortened(want[i]))
		}
	}
	t.Fatalf("Bench(%s) is %s, not %s", shortened(text), shortened(got), shortened(endedLines(want...)))
	return nil
}

// checkLines takes lines and their answers, a => between, and asks the same of what the document says.
func checkLines(t *testing.T, what string, told string) {
	t.Helper()
	text, answers := "", ""
	for _, line := range linesOf(told) {
		asked, answer, _ := strings.Cut(line, " => ")
		text, answers = text+asked+"\n", answers+answer+"\n"
	}
	checkBench(t, text)
	if got := impl.Bench(text); got != answers {
		t.Fatalf("%s: Bench is\n%s, not\n%s", what, got, answers)
	}
}

// The scripts by which a bench comes to where a line can be asked.
const (
	sungScript  = "say 0 la la\nsay 1 do\nsay 2 re\nsay 2 mi\ncalm\n"
	mailScript  = "say 0 la\nall 0\nall 1\nall 2\nsay 0 so\nall 0\n"
	fallScript  = sungScript + "say 1 fa\nall 1\nland 1 2\nstep 2\nland 1 0\ncrash 0\n"
	endedScript = fallScript + "doubt 1 0\ndoubt 2 0\ncalm\n"
	doubtScript = sungScript + "all 2\ndoubt 1 0\nall 1\n"
	fullScript  = "say 0 a\nsay 0 b\nsay 0 c\nsay 0 d\nsay 0 e\nsay 0 f\nsay 0 g\nsay 0 h\nsay 0 i\nsay 0 j\nsay 0 k\nsay 0 l\n"
	quietScript = "crash 0\ndoubt 1 0\ncalm\n"
)

func stateScripts() []string {
	return []string{"", sungScript, mailScript, fallScript, endedScript, doubtScript, fullScript, quietScript, "crash 0\ncrash 1\ncrash 2\n", "doubt 0 1\ndoubt 0 2\ndoubt 1 0\ndoubt 1 2\nall 0\nall 1\n"}
}

// probes show what a group is: they ask it first, and then do to it what can be done.
func probes() string {
	out := "onesong\n"
	for _, form := range []string{"song N", "trim N", "all N", "step N", "land N 0", "land N 1", "land N 2", "push N 1", "song N", "say N p"} {
		for who := range benchSize {
			out += strings.Replace(form, "N", strconv.Itoa(who), 1) + "\n"
		}
	}
	out += "calm\nsong 0\nsong 1\nsong 2\ntrim 0\ntrim 1\ntrim 2\n"
	for from := range benchSize {
		for to := range benchSize {
			out += fmt.Sprintf("doubt %d %d\n", from, to)
		}
	}
	return out + "calm\ntrim 0\ntrim 1\ntrim 2\ncrash 1\ncrash 0\ncrash 2\n"
}

// A standing bench is one behind a script: what it told until then, and what the probes show of it.
type standingBench struct{ told, shown string }

func standingBenchOf(t *testing.T, script string) standingBench {
	t.Helper()
	told := impl.Bench(script)
	shown, ok := strings.CutPrefix(endedLines(checkBench(t, script+probes())...), told)
	if !ok || shown == "" {
		t.Fatalf("behind %s nothing is shown", shortened(script))
	}
	return standingBench{told, shown}
}

// checkLinesRefused asks for an error to each line, which leaves the group as it was.
func checkLinesRefused(t *testing.T, what, script string, lines ...string) {
	t.Helper()
	was, more := standingBenchOf(t, script), probes()
	for _, line := range lines {
		got := impl.Bench(script + line + "\n" + more)
		if line == "" || strings.Contains(line, "\n") || got != was.told+"error\n"+was.shown {
			t.Fatalf("%s: behind %s the line %s is told so: %s", what, shortened(script), shortened(line), shortened(strings.TrimPrefix(got, was.told)))
		}
	}
}

// checkLineAnswer asks for this answer to the line, and for all behind it that the chapters tell.
func checkLineAnswer(t *testing.T, script, line, answer string) {
	t.Helper()
	if got := strings.TrimPrefix(impl.Bench(script+line), impl.Bench(script)); got != answer+"\n" {
		t.Fatalf("behind %s the line %s is answered by %s, not %s", shortened(script), shortened(line), shortened(got), answer)
	}
	checkBench(t, script+line+"\n"+probes())
}

// A goodLine is one that has an answer behind its script.
type goodLine struct{ script, line string }

func goodLines() []goodLine {
	return []goodLine{{"", "say 0 la"}, {sungScript, "say 2 x y"}, {"", "push 0 1"}, {sungScript, "push 2 0"}, {mailScript, "land 0 1"}, {mailScript, "land 1 2"}, {"", "all 0"}, {sungScript, "all 1"}, {"", "step 0"}, {sungScript, "step 2"},
		{"", "doubt 0 1"}, {sungScript, "doubt 2 0"}, {"", "crash 0"}, {sungScript, "crash 2"}, {"", "calm"}, {sungScript, "calm"}, {sungScript, "song 0"}, {sungScript, "song 2"}, {endedScript, "trim 1"}, {endedScript, "trim 2"},
		{"", "onesong"}, {sungScript, "onesong"}, {"", "rounds 1"}, {"", "rounds 5"}, {"", "rounds 100"}}
}

func TestGoodLinesAreGood(t *testing.T) {
	words := map[string]bool{}
	for _, good := range goodLines() {
		answers := checkBench(t, good.script+good.line)
		if answers[len(answers)-1] == "error" {
			t.Fatalf("behind %s this has no answer: %s", shortened(good.script), good.line)
		}
		words[strings.Fields(good.line)[0]] = true
	}
	if len(words) != 12 {
		t.Fatalf("these words are tried: %v", words)
	}
}

// Promise 20: the table, line by line.
func TestBenchWrittenOut(t *testing.T) {
	checkLines(t, "three sing", "say 0 la la => 1\nsay 1 do => 1\nsay 1 re => 2\nsay 2 mi => 1\nstep 0 => 0\nonesong => yes\ncalm => 0\nstep 0 => 3\nstep 1 => 3\nsong 0 => .la la.do.mi\nsong 1 => .la la.do.mi\nsong 2 => .la la.do.mi\ntrim 0 => error\n")
	checkLines(t, "Mails", "push 0 1 => 1\npush 0 1 => 2\npush 1 0 => 3\nall 2 => 5\nland 1 0 => 4\nland 1 0 => error\nland 2 0 => 3\nland 2 1 => 2\nland 2 1 => error\nland 0 2 => error\nland 0 1 => 1\nland 0 1 => 0\nland 0 1 => error\n")
	checkLines(t, "one is heard", "say 0 la => 1\nall 0 => 2\nland 0 1 => 1\nstep 1 => 0\nsong 1 => error\nall 1 => 3\nland 1 0 => 2\nland 0 2 => 1\nstep 2 => 0\nland 1 2 => 0\nstep 2 => 1\nsong 2 => .la\nsong 1 => error\nsong 0 => error\n")
	checkLines(t, "doubts", "doubt 0 1 => 1\ndoubt 0 1 => error\ndoubt 0 2 => 2\ndoubt 1 2 => 1\nsay 0 x => error\nsay 2 x => 1\nstep 0 => 0\n")
	checkLines(t, "falls", "crash 1 => 2\ncrash 1 => error\ncrash 0 => 1\ncrash 2 => 0\ncalm => 0\nstep 0 => error\nonesong => yes\n")
	checkLines(t, "the end without a song", "doubt 0 1 => 1\ncalm => 2\ntrim 0 => 0 0 0\ntrim 2 => 0 0 0\ntrim 1 => error\nsong 0 => error\nstep 1 => 0\n")
	checkLines(t, "rounds", "rounds 1 => 0\nrounds 2 => 1\nrounds 3 => 2\nrounds 4 => 2\nrounds 5 => 3\nrounds 1000 => 10\nrounds 1001 => error\nrounds 0 => error\nrounds -1 => error\n")
}

// Three sing, one falls, two doubt it, it gets calm, and all ends alike; the one that fell has a song that begins theirs.
func TestWholeBench(t *testing.T) {
	checkLines(t, "the whole bench", "say 0 la => 1\nsay 1 do => 1\nsay 2 re => 1\nall 0 => 2\nall 1 => 4\nall 2 => 6\nland 0 1 => 5\nland 2 1 => 4\nstep 1 => 0\nland 1 0 => 3\nland 2 0 => 2\nstep 0 => 0\nland 0 2 => 1\nland 1 2 => 0\nstep 2 => 0\n"+
		"all 0 => 2\nall 1 => 4\nall 2 => 6\nland 1 0 => 5\nland 2 0 => 4\nstep 0 => 3\nsong 0 => .la.do.re\nsong 1 => error\n"+
		"say 0 mi => 2\nsay 1 fa => 2\npush 0 1 => 5\ncrash 0 => 2\nsay 0 so => error\nstep 0 => error\nsong 0 => .la.do.re\n"+
		"doubt 1 0 => 1\nsay 1 x => error\ndoubt 2 0 => 1\ndoubt 2 0 => error\nonesong => yes\ncalm => 2\ntrim 0 => error\ntrim 1 => 1 1 1\ntrim 2 => 1 1 1\n"+
		"song 0 => .la.do.re\nsong 1 => .la.do.re\nsong 2 => .la.do.re\nonesong => yes\nsay 1 x => error\ndoubt 1 2 => error\nstep 1 => 3\ncrash 2 => 1\ncalm => 2\n")
}

// Each line of the table, with all numbers about those of a group of 3, wherever a bench may stand: its answer, and what it does.
func TestEachLineInManyStates(t *testing.T) {
	answered, refused := map[string]int{}, map[string]int{}
	for _, script := range stateScripts() {
		for _, line := range allSmallLines() {
			told := checkBench(t, script+line+"\n"+probes())
			word := strings.Fields(line)[0]
			if told[len(linesOf(script))] == "error" {
				refused[word]++
			} else {
				answered[word]++
			}
		}
	}
	for _, word := range []string{"say", "push", "land", "all", "step", "doubt", "crash", "song", "trim"} {
		if answered[word] < 4 || refused[word] < 4 {
			t.Fatalf("%s: %d have an answer, %d are refused", word, answered[word], refused[word])
		}
	}
	if answered["calm"] != 10 || answered["onesong"] != 10 || refused["calm"] != 0 || refused["onesong"] != 0 {
		t.Fatalf("these have answers: %v; these are refused: %v", answered, refused)
	}
}

func allSmallLines() []string {
	out := []string{"calm", "onesong"}
	for a := -1; a <= benchSize; a++ {
		for _, form := range []string{"say %d la", "all %d", "step %d", "crash %d", "song %d", "trim %d", "rounds %d"} {
			out = append(out, fmt.Sprintf(form, a))
		}
		for b := -1; b <= benchSize; b++ {
			out = append(out, fmt.Sprintf("push %d %d", a, b), fmt.Sprintf("land %d %d", a, b), fmt.Sprintf("doubt %d %d", a, b))
		}
	}
	return out
}

func TestSayIsRefused(t *testing.T) {
	for _, c := range []struct{ why, script, line string }{
		{"Wedged by its own doubt", doubtScript, "say 1 x"},
		{"Wedged by another one's", doubtScript + "land 1 2\nstep 2\n", "say 2 x"},
		{"Done", endedScript, "say 1 x"},
		{"not Up", fallScript, "say 0 x"},
		{"12 Texts", fullScript, "say 0 x"},
		{"12 Texts, of no byte", fullScript, "say 0 "},
		{"21 bytes", "", "say 0 " + strings.Repeat("x", 21)},
		{"21 blanks", "", "say 0 " + strings.Repeat(" ", 21)},
		{"21 bytes with those ahead", "", "say 0 " + strings.Repeat(" ", 20) + "x"},
		{"21 bytes with those behind", "", "say 0 x" + strings.Repeat(" ", 20)},
		{"21 bytes, though 11 runes", "", "say 0 x" + strings.Repeat("é", 10)},
		{"very long", sungScript, "say 1 " + strings.Repeat("x", 15000)},
	} {
		checkLinesRefused(t, c.why, c.script, c.line)
	}
	checkLineAnswer(t, "say 1 a\n", "say 1 "+strings.Repeat("x", 20), "2")
	checkLineAnswer(t, strings.TrimSuffix(fullScript, "say 0 l\n"), "say 0 l", "12")
	checkLineAnswer(t, doubtScript, "say 0 x", "2")
}

// A TEXT is all that is behind the blank: blanks, too, and no byte at all.
func TestTextBehindTheBlank(t *testing.T) {
	for _, text := range []string{"", " ", "  ", strings.Repeat(" ", 20), " x", "x ", " x ", "  x  y  ", "x", "x y", "0", "0 1", "0 0 0", "say 0 x", ".", ".x", "-", "error", "\r", "\x00", "\t", "\xff", "x\r", "é", strings.Repeat("é", 10), strings.Repeat("x", 20)} {
		checkLineAnswer(t, "", "say 0 "+text, "1")
		if got := impl.Bench("say 0 " + text + "\ncalm\nsay 1 a\ncalm\nsong 2\nsay 2 b\ncalm\nsong 1"); got != "1\n0\n1\n0\n."+text+".a\n1\n0\n."+text+".a.b\n" {
			t.Fatalf("with the TEXT %q this is told: %q", text, got)
		}
	}
}

// An empty TEXT is sung, so its song is not nothing; and where no blank is, there is no TEXT.
func TestSongOfEmptyTexts(t *testing.T) {
	checkLines(t, "one", "say 0  => 1\ncalm => 0\nsong 0 => .\nsong 1 => .\n")
	checkLines(t, "three", "say 0  => 1\nsay 1  => 1\nsay 2  => 1\ncalm => 0\nsong 2 => ...\n")
	for _, script := range stateScripts() {
		checkLinesRefused(t, "no TEXT, or none of whom", script, "say", "say ", "say 0", "say 1", "say 2", "say x", "say  ", "say  0", "say  0 x", "say x 0")
	}
}

func TestNumbersOfNoneAreRefused(t *testing.T) {
	wrong := []string{}
	for _, word := range []string{"push", "land", "doubt"} {
		for _, two := range []string{"0 0", "1 1", "2 2", "0 -1", "-1 0", "-1 -1", "0 3", "3 0", "3 3", "3 4", "0 4", "0 5", "5 1", "0 8", "8 0", "0 255", "256 1", "999999999 0", "0 999999999", "-999999999 1", "1 -999999999", "1000000000 0", "0 1000000000", "0 4294967297", "4294967296 1", "0 18446744073709551617"} {
			wrong = append(wrong, word+" "+two)
		}
	}
	for _, word := range []string{"all", "step", "crash", "song", "trim", "say", "rounds"} {
		for _, one := range []string{"-1", "-2", "3000", "999999999", "-999999999", "1000000000", "4294967296", "4294967297", "18446744073709551616", "99999999999999999999999"} {
			wrong = append(wrong, word+" "+one, word+" "+one+" x")
		}
		if wrong = append(wrong, word+" 3 x"); word != "rounds" {
			wrong = append(wrong, word+" 3")
		}
	}
	for _, script := range []string{"", sungScript, mailScript, doubtScript} {
		checkLinesRefused(t, "none of a group of 3", script, wrong...)
	}
}

func TestPairsAreRefused(t *testing.T) {
	checkLinesRefused(t, "no Mail", "", "land 0 1")
	checkLinesRefused(t, "the other way round", "push 0 1\n", "land 1 0")
	checkLinesRefused(t, "to another one", "push 0 1\n", "land 0 2")
	checkLinesRefused(t, "from another one", "push 0 1\n", "land 2 1")
	checkLinesRefused(t, "landed already", "push 0 1\nland 0 1\n", "land 0 1")
	checkLinesRefused(t, "landed in calm", "push 0 1\ncalm\n", "land 0 1")
	checkLinesRefused(t, "doubted already", doubtScript, "doubt 1 0")
	checkLinesRefused(t, "doubted as another one does", doubtScript+"land 1 2\nstep 2\n", "doubt 2 0")
	checkLinesRefused(t, "Done", endedScript, "doubt 1 2")
	checkLineAnswer(t, doubtScript, "doubt 1 2", "2")
	checkLineAnswer(t, doubtScript, "doubt 2 0", "1")
}

// Who is not Up does nothing any more; but its Mails land, Mails land where it is, it is doubted, and what it sang can be asked.
func TestOneThatIsNotUp(t *testing.T) {
	for _, c := range []struct{ line, answer string }{{"say 0 x", "2"}, {"push 0 1", "1"}, {"all 0", "2"}, {"step 0", "3"}, {"doubt 0 1", "1"}, {"crash 0", "2"}} {
		checkLinesRefused(t, "not Up", fallScript, c.line)
		checkLineAnswer(t, strings.TrimSuffix(fallScript, "crash 0\n"), c.line, c.answer)
	}
	script := mailScript + "crash 0\n"
	checkLineAnswer(t, script, "land 0 1", "7")
	checkLineAnswer(t, script, "land 1 0", "7")
	checkLineAnswer(t, script, "doubt 1 0", "1")
	checkLineAnswer(t, script, "push 1 0", "9")
	checkLineAnswer(t, script, "crash 1", "1")
	checkLineAnswer(t, fallScript, "song 0", ".la la.do.re")
	checkLineAnswer(t, fallScript, "onesong", "yes")
}

func TestSongAndTrimOfNothing(t *testing.T) {
	for who := range benchSize {
		song, trim := fmt.Sprint("song ", who), fmt.Sprint("trim ", who)
		checkLinesRefused(t, "nothing is said", "", song)
		checkLinesRefused(t, "nothing is sung", mailScript, song)
		checkLinesRefused(t, "nothing is Ready", "say 1 x\nsay 2 y\ncalm\n", song)
		checkLinesRefused(t, "the song that ended is empty", quietScript, song)
		checkLinesRefused(t, "nobody doubts", sungScript, trim)
		checkLinesRefused(t, "Wedged, and not Ready", doubtScript+"land 1 0\nland 1 2\nstep 0\nstep 1\nstep 2\n", trim)
	}
	checkLinesRefused(t, "it fell ahead of the end", endedScript, "trim 0")
	checkLineAnswer(t, quietScript, "trim 1", "0 0 0")
	checkLineAnswer(t, endedScript, "trim 1", "1 2 2")
	checkLineAnswer(t, endedScript, "trim 2", "1 2 2")
	checkLineAnswer(t, endedScript, "song 2", ".la la.do.re.fa.mi")
	// Of a Trim of 12 each one sees that these are numbers.
	checkLineAnswer(t, fullScript+"calm\ndoubt 0 1\ncalm\n", "trim 0", "12 0 0")
	// Who is Ready but not Done has a Trim, too.
	checkLineAnswer(t, "doubt 0 2\nall 0\nland 0 1\nstep 1\nall 1\nland 1 0\nstep 0\n", "trim 0", "0 0 0")
	checkLineAnswer(t, "doubt 0 2\nall 0\nland 0 1\nstep 1\nall 1\nland 1 0\n", "step 0", "0")
}

func TestRoundsOfEachNumber(t *testing.T) {
	for first := int64(-3); first <= 1200; first += mostLines {
		text := ""
		for n := first; n < first+mostLines; n++ {
			text += fmt.Sprintf("rounds %d\n", n)
		}
		for i, answer := range checkBench(t, text) {
			if n := first + int64(i); n < 1 || n > 1000 {
				if answer != "error" {
					t.Fatalf("rounds %d is %s", n, answer)
				}
			} else if r, err := strconv.Atoi(answer); err != nil || 1<<r < n || r > 0 && 1<<(r-1) >= n {
				t.Fatalf("rounds %d is %s", n, answer)
			}
		}
	}
	checkLinesRefused(t, "beyond the tree", "", "rounds 0", "rounds -5", "rounds 1001", "rounds 1000000", "rounds 999999999", "rounds -999999999", "rounds 1000000000", "rounds 4294967301", "rounds 18446744073709551621")
}

// Numbers are of just one form: whatever else is written where one stands is none.
func TestWordsThatAreNoNumbers(t *testing.T) {
	isNumber := formed("N")
	for _, good := range goodLines() {
		words, lines := strings.SplitN(good.line, " ", 3), []string{}
		for at, word := range words {
			n, err := strconv.ParseInt(word, 10, 64)
			if err != nil || at == 0 {
				continue
			}
			for _, wrong := range wrongNumbers(n) {
				// A blank behind the number is one that belongs to the TEXT.
				if strings.Contains(wrong, "\n") || isNumber.MatchString(wrong) || words[0] == "say" && strings.HasSuffix(wrong, " ") {
					continue
				}
				line := slices.Clone(words)
				line[at] = wrong
				lines = append(lines, strings.Join(line, " "))
			}
		}
		checkLinesRefused(t, "no number", good.script, lines...)
	}
}

func TestOneWordTooManyOrTooFew(t *testing.T) {
	for _, good := range goodLines() {
		words, wrong := strings.Split(good.line, " "), []string{}
		isSay := words[0] == "say"
		for count := 1; count < len(words); count++ {
			if isSay && count > 2 {
				continue
			}
			fewer := strings.Join(words[:count], " ")
			for _, line := range []string{fewer, fewer + " ", " " + fewer, fewer + "\t" + strings.Join(words[count:], " ")} {
				// What is behind the blank is a TEXT, though of no byte.
				if isSay && count == 2 && line == fewer+" " {
					continue
				}
				wrong = append(wrong, line)
			}
		}
		for _, more := range []string{" ", "  ", " 0", " 1", " 2", " x", " " + good.line, " 0 1 2 3", "\r", "\t", "\x00", " \x00"} {
			if !isSay {
				wrong = append(wrong, good.line+more)
			}
		}
		checkLinesRefused(t, "a word too many or too few", good.script, wrong...)
	}
}

func TestBlanksBetweenWords(t *testing.T) {
	for _, good := range goodLines() {
		lines := []string{}
		for _, wrong := range []string{" ", "  ", "\t", "\r", "\x00", "\xff", "\u00a0", "\ufeff", "\v", "\f"} {
			lines = append(lines, wrong+good.line)
		}
		for at, b := range []byte(good.line) {
			// The third word of say is a TEXT already, which may have any blanks.
			if b != ' ' || good.line[0] == 's' && strings.HasPrefix(good.line, "say") && at > len("say ") {
				continue
			}
			for _, wrong := range []string{"  ", "   ", "\t", " \t", "\t ", "", ",", "\r", "\x00", "_", "\u00a0"} {
				// A tab and a blank behind a number make it none, too.
				lines = append(lines, good.line[:at]+wrong+good.line[at+1:])
			}
		}
		checkLinesRefused(t, "another blank than one between two words", good.script, lines...)
	}
	checkLinesRefused(t, "no word", sungScript, " ", "  ", "   ", "    ", "\t", "\r", "\x00", "\xff", " \r")
}

func tableWords() []string {
	return []string{"say", "push", "land", "all", "step", "doubt", "crash", "calm", "song", "trim", "onesong", "rounds"}
}

func TestWordsThatAreNotInTheTable(t *testing.T) {
	for _, good := range goodLines() {
		word, rest, _ := strings.Cut(good.line, " ")
		if rest != "" {
			rest = " " + rest
		}
		wrong := []string{"", "x", "error", "0", "saying", "one", "Say", "help", "deed", strings.ToUpper(word), strings.ToUpper(word[:1]) + word[1:], word[:len(word)-1] + strings.ToUpper(word[len(word)-1:]), word + "s", word + word, "x" + word, word + ".", word + "0", "." + word, word + "\x00", strings.Repeat(word, 1000)}
		for length := 1; length < len(word); length++ {
			wrong = append(wrong, word[:length], word[length:], word[:length]+" "+word[length:], word[:length]+"\x00"+word[length:], word[:length]+word[length-1:])
		}
		wrong = slices.DeleteFunc(wrong, func(other string) bool { return other+rest == "" || slices.Contains(tableWords(), other) })
		for i, other := range wrong {
			wrong[i] = other + rest
		}
		checkLinesRefused(t, "no word of the table", good.script, wrong...)
	}
}

// Of two words of the table the one is not the other: what it is asked with decides.
func TestWordsWithTheNumbersOfOthers(t *testing.T) {
	for _, script := range stateScripts() {
		for _, word := range tableWords() {
			for _, rest := range []string{"", " 0", " 1", " 0 1", " 2 1", " 1 0 x", " 0 1 2"} {
				checkBench(t, script+word+rest+"\n"+probes())
			}
		}
	}
}

// Bytes in each place of each line, one more, one less or another one: only a TEXT takes them all.
func TestBytesWithinLines(t *testing.T) {
	for _, good := range goodLines() {
		wrong := []string{}
		for at := range len(good.line) + 1 {
			lines := []string{}
			for _, b := range []string{"\x00", "\r", "\t", "\xff", "\x80", "\v", " ", "0", "-"} {
				lines = append(lines, good.line[:at]+b+good.line[at:])
				if at < len(good.line) {
					lines = append(lines, good.line[:at]+b+good.line[at+1:], good.line[:at]+good.line[at+1:])
				}
				isOfText := strings.HasPrefix(good.line, "say") && (at > 5 || at == 5 && b == " ")
				if !isOfText && b != "0" && b != "-" {
					wrong = append(wrong, good.line[:at]+b+good.line[at:])
				}
			}
			checkBench(t, good.script+endedLines(lines...)+probes())
		}
		checkLinesRefused(t, "a byte too many", good.script, wrong...)
	}
}

func TestEachByteOfText(t *testing.T) {
	for b := range 256 {
		if one := string([]byte{byte(b)}); b != '\n' {
			checkLineAnswer(t, "", "say 0 "+one, "1")
			checkLineAnswer(t, "say 0 x\n", "say 0 a"+one+"b", "2")
			checkLinesRefused(t, "no word", "", one)
		}
	}
}

// A byte 10 parts lines wherever it stands.
func TestByteTenPartsLines(t *testing.T) {
	for _, good := range goodLines() {
		for at := range len(good.line) + 1 {
			checkBench(t, good.script+good.line[:at]+"\n"+good.line[at:]+"\n"+probes())
		}
	}
	checkLines(t, "parted", "say 0 a => 1\nb => error\nsay => error\n0 x => error\nsay 0 => error\nx => error\ncal => error\nm => error\n")
}

// A line without a byte is passed over, wherever it stands and however many of them; and the last line may lack its byte 10.
func TestLinesWithoutAByte(t *testing.T) {
	for _, text := range []string{"", "\n", "\n\n", strings.Repeat("\n", 199), strings.Repeat("\n", 200), strings.Repeat("\n", 201)} {
		if got := impl.Bench(text); got != "" {
			t.Fatalf("Bench(%s) is %s", shortened(text), shortened(got))
		}
	}
	for _, script := range stateScripts() {
		lines := linesOf(script + "say 1 z\nsong 1\nrounds 9\ncalm\n")
		want := impl.Bench(endedLines(lines...))
		for at := range len(lines) + 1 {
			for _, count := range []int{1, 2, 5, mostLines - len(lines)} {
				text := endedLines(lines[:at]...) + strings.Repeat("\n", count) + endedLines(lines[at:]...)
				if got := impl.Bench(text); got != want {
					t.Fatalf("with %d empty lines ahead of line %d of %s this is told: %s", count, at, shortened(endedLines(lines...)), shortened(got))
				}
			}
		}
		spread := "\n" + strings.Join(lines, "\n\n")
		for _, text := range []string{strings.Join(lines, "\n"), endedLines(lines...), endedLines(lines...) + "\n", spread, spread + "\n", spread + "\n\n"} {
			if got := impl.Bench(text); got != want {
				t.Fatalf("Bench(%s) is %s, not %s", shortened(text), shortened(got), shortened(want))
			}
		}
	}
	for _, text := range []string{"x", "calm", "calm\n", "\ncalm", "\ncalm\n", "\n\ncalm\n\n", "say 0 ", "say 0 \n", "say 0 x\n", "say 0 x"} {
		if answers := checkBench(t, text); len(answers) != 1 {
			t.Fatalf("Bench(%q) has these answers: %q", text, answers)
		}
	}
}

// All lines count, also those without a byte, and a last one that lacks its byte 10 as one that has it.
func TestBenchAtTheMostLines(t *testing.T) {
	for _, line := range []string{"calm", "x", "say 0 x", "all 1", "rounds 3", "onesong"} {
		for _, count := range []int{1, 100, mostLines - 1, mostLines} {
			text := strings.Repeat(line+"\n", count)
			for _, text := range []string{text, strings.TrimSuffix(text, "\n")} {
				if answers := checkBench(t, text); len(answers) != count {
					t.Fatalf("%d lines have %d answers", count, len(answers))
				}
			}
			for _, count := range []int{mostLines + 1, mostLines + 2, 256 + 1, 400, 20000 / len(line+"\n")} {
				text := strings.Repeat(line+"\n", count)
				checkNoBench(t, text, strings.TrimSuffix(text, "\n"))
			}
		}
	}
	for at := range mostLines {
		empty := strings.Repeat("\n", at) + "rounds 5\n" + strings.Repeat("\n", mostLines-1-at)
		if got := impl.Bench(empty); got != "3\n" {
			t.Fatalf("with %d empty lines ahead and %d behind this is told: %q", at, mostLines-1-at, got)
		}
		checkNoBench(t, empty+"\n", "\n"+empty, empty+"x", empty+"rounds 5\n", empty+" ")
	}
	if got := impl.Bench(strings.Repeat("\n", mostLines-1) + "rounds 5"); got != "3\n" {
		t.Fatalf("as the last one it is told so: %q", got)
	}
	checkNoBench(t, strings.Repeat("\n", mostLines)+"rounds 5", strings.Repeat("\n", mostLines)+"x")
}

func checkNoBench(t *testing.T, texts ...string) {
	t.Helper()
	for _, text := range texts {
		if got := impl.Bench(text); got != "" {
			t.Fatalf("Bench of %d bytes in %d lines is %s", len(text), len(linesOf(text)), shortened(got))
		}
	}
}

func TestBenchAtTheMostBytes(t *testing.T) {
	long := func(count int) string { return strings.Repeat("x", count) }
	for _, script := range append(stateScripts(), "calm\n") {
		answers := impl.Bench(script)
		room := mostBench - len(script)
		for _, text := range []string{script + long(room), script + long(room-1) + "\n", long(room-1) + "\n" + script} {
			want := answers + "error\n"
			if text[0] == 'x' {
				want = "error\n" + answers
			}
			if got := impl.Bench(text); len(text) != mostBench || got != want {
				t.Fatalf("Bench of %d bytes is %s, not %s", len(text), shortened(got), shortened(want))
			}
			checkBench(t, text)
			checkNoBench(t, text+"x", text+"\n", "\n"+text, "x"+text, text+"\ncalm\n")
		}
		checkBench(t, script+long(room-2)+"\n")
	}
	// Both limits met at once, and each one passed by itself.
	full := strings.Repeat(long(99)+"\n", mostLines)
	if got := impl.Bench(full); len(full) != mostBench || got != strings.Repeat("error\n", mostLines) {
		t.Fatalf("Bench at both limits is %s", shortened(got))
	}
	checkNoBench(t, full+"\n", full+"x", "x"+full, strings.Repeat(long(98)+"\n", mostLines+1))
}

func TestVeryLongBenches(t *testing.T) {
	for _, length := range []int{mostBench + 1, 1 << 15, 1<<16 + 3, 1 << 20, 1 << 24} {
		for _, s := range []string{"\n", " ", "x", "calm\n", "say 0 x\n", "\x00", "rounds 5\n\n"} {
			checkNoBench(t, strings.Repeat(s, length/len(s)+1))
		}
	}
}

// What is sent beyond 200 Mails is lost, but it is no error.
func TestBenchOfManyMails(t *testing.T) {
	script := strings.Repeat("all 0\n", 99) + "push 1 2\n"
	checkLineAnswer(t, script, "onesong", "yes")
	for _, c := range []struct{ lines, answers string }{
		{"push 0 1\npush 0 1\nall 2\n", "200\n200\n200\n"},
		{"all 2\nland 2 0\nland 2 1\nland 1 2\npush 1 2\nland 1 2\n", "200\n199\nerror\n198\n199\n198\n"},
		{"push 2 1\nland 2 1\nall 1\nall 1\ncalm\nland 0 1\npush 0 1\n", "200\n199\n200\n200\n0\nerror\n1\n"},
	} {
		if got := strings.TrimPrefix(impl.Bench(script+c.lines), impl.Bench(script)); got != c.answers {
			t.Fatalf("behind 199 Mails %q is told so: %q", c.lines, got)
		}
		checkBench(t, script+c.lines+probes())
	}
}

func benchTexts() []string {
	out := []string{"", "\n", "calm", "x", "say 0 x\ncalm\nsong 1", strings.Repeat("x", mostBench), strings.Repeat("calm\n", 50)}
	for _, script := range stateScripts() {
		out = append(out, script, script+probes())
	}
	for _, good := range goodLines() {
		out = append(out, good.script+good.line)
	}
	return out
}

// The same text has the same answer each time, by whatever is asked between and at once.
func TestBenchAnswersAgain(t *testing.T) {
	texts, want := benchTexts(), []string{}
	for _, text := range texts {
		want = append(want, impl.Bench(text))
	}
	for range 3 {
		for i := len(texts) - 1; i >= 0; i-- {
			if got := impl.Bench(texts[i]); got != want[i] {
				t.Fatalf("Bench(%s) is %s, and was %s", shortened(texts[i]), shortened(got), shortened(want[i]))
			}
		}
	}
	var asked sync.WaitGroup
	got := make([]string, len(texts))
	for i, text := range texts {
		asked.Go(func() { got[i] = impl.Bench(text) })
	}
	asked.Wait()
	if !slices.Equal(got, want) {
		t.Fatalf("asked at once this is told: %q, not %q", got, want)
	}
	// Who listened for onesong has ended with its line.
	before := runtime.NumGoroutine()
	for range 50 {
		impl.Bench(strings.Repeat("onesong\n", mostLines))
	}
	checkNobodyLeft(t, before)
}

// Promise 21: the text stays, what is behind it, too; and no answer shares memory with it or with another one.
func TestBenchTextsStayAndAreNotShared(t *testing.T) {
	for _, text := range benchTexts() {
		bytes := roomyWith([]byte(text), 'm')
		was := whole(bytes)
		earlier, later := impl.Bench(written(bytes)), impl.Bench(written(bytes))
		if !slices.Equal(whole(bytes), was) {
			t.Fatalf("%s or what is behind it changed", shortened(text))
		}
		if sharedBytes(earlier, written(bytes)) || sharedBytes(earlier, later) || earlier != later {
			t.Fatalf("an answer to %s shares memory", shortened(text))
		}
		told := strings.Clone(earlier)
		copy(bytes, strings.Repeat("#", len(bytes)))
		if earlier != told {
			t.Fatalf("writing over a text changed %s", shortened(told))
		}
	}
}
