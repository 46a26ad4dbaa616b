package tests

import (
	"fmt"
	"math"
	"regexp"
	"runtime"
	"slices"
	"strconv"
	"strings"
	"sync"
	"testing"

	"loop.example/g00242/impl"
)

var numbered = regexp.MustCompile(`\A(run|gc) (0|[1-9][0-9]{0,2})\z`)

// wantDeskLine: what a line comes to, by what the tests reckon of a machine and of what is shown.
func wantDeskLine(m impl.Machine, line string) (impl.Machine, string) {
	if !wantMachineOk(m) {
		return m, "bad"
	}
	if found := numbered.FindStringSubmatch(line); found != nil {
		n, _ := strconv.Atoi(found[2])
		if found[1] == "gc" {
			m = wantGc(m, n)
		} else {
			m = impl.MachineRun(m, nil, n)
		}
		return m, wantOutText(wantTold(m))
	}
	switch {
	case line == "slab":
		return m, wantSlabText(m.Slab)
	case line == "live":
		return m, strconv.Itoa(wantLive(m))
	case line == "stack":
		return m, strconv.Itoa(len(m.Stack))
	case line == "last" && (len(m.Lines) == 0 || m.Lines[len(m.Lines)-1] == ""):
		return m, "none"
	case line == "last":
		return m, m.Lines[len(m.Lines)-1]
	case strings.HasPrefix(line+";", ";"):
		return m, ""
	}
	return m, "what"
}

// wantLinesOf takes a text apart byte by byte.
func wantLinesOf(text string) []string {
	var out []string
	line := []byte{}
	for _, b := range []byte(text) {
		if b == 10 {
			out = append(out, string(line))
			line = line[:0]
			continue
		}
		line = append(line, b)
	}
	if len(line) > 0 {
		out = append(out, string(line))
	}
	return out
}

// wantSession gives each line to DeskLine, one behind the other, from DeskNew on.
func wantSession(src string, words int, text string) (string, int) {
	m, how := impl.DeskNew(src, words)
	if how != 0 {
		return "", -1
	}
	lines := wantLinesOf(text)
	if len(lines) > 60 {
		return "", -2
	}
	told := ""
	for _, line := range lines {
		next, said := impl.DeskLine(m, line)
		m = next
		if said != "" {
			told += said + "\n"
		}
	}
	return told, len(lines)
}

func wantDeskNew(src string, words int) (impl.Machine, int) {
	n, at := impl.Parse(src)
	if at != -1 {
		return impl.Machine{}, 1
	}
	u, code := impl.Compile(n)
	if code != 0 {
		return impl.Machine{}, 2
	}
	m, ok := impl.MachineNew(u, words)
	if !ok {
		return impl.Machine{}, 3
	}
	return m, 0
}

func checkDeskNew(t *testing.T, src string, words int) int {
	t.Helper()
	m, how := impl.DeskNew(src, words)
	if want, code := wantDeskNew(src, words); how != code || !sameMachine(m, want) {
		t.Errorf("%d %s, not %d %s, %d words of %.300q", how, machineText(m), code, machineText(want), words, src)
	}
	return how
}

// checkLine: what DeskLine tells is what is wanted; the machine behind the line is told.
func checkLine(t *testing.T, what string, m impl.Machine, line string) impl.Machine {
	t.Helper()
	got, said := impl.DeskLine(m, line)
	want, text := wantDeskLine(m, line)
	if said != text {
		t.Errorf("%s: %.100q tells %.300q, not %.300q, of %.2000s", what, line, said, text, machineText(m))
	}
	if !sameMachine(got, want) {
		t.Errorf("%s: behind %.100q %.2000s, not %.2000s", what, line, machineText(got), machineText(want))
	}
	return got
}

func checkSession(t *testing.T, src string, words int, text string) {
	t.Helper()
	said, count := impl.Session(src, words, text)
	if want, n := wantSession(src, words, text); said != want || count != n {
		t.Errorf("%d %.500q, not %d %.500q, of %.300q, %d words, %.300q", count, said, n, want, src, words, text)
	}
}

// tells: that a line tells just that, and turns nothing.
func tells(t *testing.T, m impl.Machine, line, want string) {
	t.Helper()
	got, said := impl.DeskLine(m, line)
	if said != want {
		t.Errorf("%.100q tells %.200q, not %.200q, of %.1000s", line, said, want, machineText(m))
	}
	if !sameMachine(got, m) {
		t.Errorf("%.100q turns %.1000s to %.1000s", line, machineText(m), machineText(got))
	}
}

// askingLines turn nothing; those that are none are noLines.
func askingLines() []string {
	return append([]string{"slab", "live", "last", "stack", "", ";", "; x", ";run 5", ";;", "; gc 100", ";\x00\xff", ";slab"}, noLines()...)
}

func noLines() []string {
	out := []string{"help", "what", "bad", " ", "  ", " ;", " slab", "slab ", "slab 1", "slab 0", "live ", "live 5", "last 1", "stack 1", "stack;", "slab;", "Slab", "SLAB", "LIVE", "Last", "sTack", "Run 5", "RUN 5", "GC 1", "Gc 1", "gC 1",
		"s", "sl", "sla", "slabs", "slab slab", "sslab", "l", "la", "las", "lasts", "laststack", "li", "liv", "lives", "alive", "st", "stac", "stacks", "r", "ru", "run", "runs", "g", "gc", "gcs", "rungc 5", "gcrun 5", "gc gc 5", "run run 5", "run gc 5", "run 5 gc 5", "runs 5", "ru 5", "grun 5", "g 5", "gcc 5", "agc 5",
		"5", " 5", "0", "run5", "gc5", "run\t5", "gc\t5", "run\xa05", "run\u00a05", "run_5", "run=5", "run\x005", "run,5", "run\n5", "run\r5", "slab\r", "slab\x00", "\x00slab", "slab\n", "\nslab", "\n", "\nrun 5", "run 5\n", "run 5\r", "gc 5\n", "none", "end 1", "\x00", "\xff", "é", "#", ":", ","}
	for _, word := range []string{"run", "gc"} {
		for _, number := range noNumbers() {
			out = append(out, word+" "+number)
		}
	}
	return out
}

func noNumbers() []string {
	return []string{"", " ", "00", "000", "0000", "01", "05", "005", "0005", "010", "099", "0100", "0999", "001", "1000", "1001", "4000", "9999", "10000", "99999", "2147483648", "4294967296", "4294967301", "9223372036854775807", "9223372036854775808", "18446744073709551616", "18446744073709551621", strings.Repeat("9", 5000), strings.Repeat("0", 5000) + "5",
		"-1", "-0", "-5", "-99", "+0", "+5", "+99", "- 5", "--5", "5-", "5+", "\u22125", " 5", "  5", "5 ", "5  ", " 5 ", "5 5", "5 0", "\t5", "5\t", "5;", ";5", "; 5", "5.", "5.0", ".5", "5,", "5,0", "1_0", "1 0", "0x5", "0x", "0b1", "0o7", "5e0", "1e2", "e", "a", "5a", "a5", "five", "N", "n", "'5'", "\"5\"", "(5)", "5\x00", "\x005", "٥", "５", "²", "5\xff", "\xff", "1\xe3\x80\x80", "NaN", "Inf", "x"}
}

func TestP20Constants(t *testing.T) {
	if impl.MaxLines != 60 {
		t.Error(impl.MaxLines)
	}
}

func TestP20SessionsByHand(t *testing.T) {
	obj := "let o = {a: 1};\nprint o.a;\n"
	for _, c := range []struct {
		src         string
		words       int
		lines, want string
		count       int
	}{
		{obj, 40, "slab\nrun 5\nslab\nlive\nstack\ngc 100\nslab\nlast\nrun 100\nlast\n; x\nhelp\nrun 05\ngc 1", "s3 .37\nfuel 0\ns3 o3 t3 c4 .27\n13\n1\nfuel 0\ns3 o3 t3 c4 .27\nnone\nend 1\n1\nwhat\nwhat\nend 1\n", 14},
		{obj, 40, "run 0\nrun 1\nrun 2\nrun 3\nrun 4\nlast\nrun 10\nlast\nrun 999\nlast", "fuel 0\nfuel 0\nfuel 0\nfuel 0\nend 1\n1\nend 1\n1\nend 1\n1\n", 10},
		{"", 2, "slab\nlive\nstack\nlast\nrun 1\nstack\nrun 1\nstack\nslab", "s2\n2\n0\nnone\nfuel 0\n1\nend 0\n0\ns2\n", 9},
		{"", 3, "slab\nlive", "s3\n3\n", 2}, {"", 4, "slab\nlive\ngc 100\nslab\nlive", "s2 .2\n2\nfuel 0\ns2 .2\n2\n", 5}, {"", 2000, "slab", "s2 .1998\n", 1},
		{`print ""; print "a b"; print "; x"; print "what"; print "";`, 60, "last\nrun 2\nlast\nrun 2\nlast\nrun 2\nlast\nrun 2\nlast\nrun 2\nlast\nrun 2\nlast", "none\nfuel 1\nnone\nfuel 2\na b\nfuel 3\n; x\nfuel 4\nwhat\nfuel 5\nnone\nend 5\nnone\n", 13},
		{"print 1 + null;", 20, "run 9\nlast\nstack\nrun 9\nslab", "type 0\nnone\n2\ntype 0\ns2 .18\n", 5},
		{"let f = function() { print 7; f(); }; f();", 400, "run 999\nlast\nrun 5", "calls 30\n7\ncalls 30\n", 3},
		{"let l = null; while (1) { l = {l: l}; print 5; }", 30, "run 999\nlast\ngc 100\nrun 1\n", "room 3\n5\nroom 3\nroom 3\n", 4},
		{`"lost"; print 1;`, 40, "run 2\nslab\nlive\ngc 1\nlive\ngc 1\nlive\nslab\ngc 2\nslab\ngc 99\nslab\nlive\nstack", "fuel 0\ns2 t6 .32\n2\nfuel 0\n2\nfuel 0\n0\ns2 t6 .32\nfuel 0\ns2 .38\nfuel 0\ns2 .38\n2\n0\n", 14},
		{"while (1) { }", 10, "run 999\nrun 999\ngc 99\ngc 100\ngc 999\ngc 0", "fuel 0\nfuel 0\nfuel 0\nfuel 0\nfuel 0\nfuel 0\n", 6},
		{"print 3;", 10, ";\n\n;slab\n; \n\n", "", 5}, {"print 3;", 10, "", "", 0}, {"print 3;", 10, "\n", "", 1}, {"print 3;", 10, " ", "what\n", 1}, {"print 3;", 10, "run 3\r\nlast\r\n", "what\nwhat\n", 2},
	} {
		if said, count := impl.Session(c.src, c.words, c.lines); said != c.want || count != c.count {
			t.Errorf("%d %q, not %d %q, of %q, %d words, %q", count, said, c.count, c.want, c.src, c.words, c.lines)
		}
		checkSession(t, c.src, c.words, c.lines)
	}
}

// Which of the three there is none of: the one named first counts.
func TestP20NewOf(t *testing.T) {
	of := map[int][]string{
		0: {"", "print 1;", "let a = 1;", "while (1) { }", manyLets("a", 12), strings.Repeat(" ", 800), strings.Repeat("function(){};", 39), "print " + strings.Repeat("(", 300) + "1" + strings.Repeat(")", 300) + ";"},
		1: {"let", "let a;", "print 1", "q", ";", "}", "print 01;", "\"a", "print \x80;", strings.Repeat(" ", 801), strings.Repeat("1;", 300), "print " + strings.Repeat("!", 30) + "1;", "let let = 1;", "print abcdefghijklm;", "print 2147483648;", "print \"a\nb\";", "\x00"},
		2: {"q;", "q = 1;", "print q;", "print function() { return q; };", "let a = 1; let a = 2;", "function(a, a) { };", "function(a) { let a = 1; };", "if (1) { let a = 1; } let a = 2;", manyLets("a", 13), "function(a) { " + manyLets("b", 12) + " };", strings.Repeat("function(){};", 40), "let f = function() { let a = 1; }; print a;"},
	}
	for slot := range faultSlots() {
		for _, code := range []int{impl.NmTwice, impl.NmMany, impl.NmNone} {
			for kind := range 3 {
				of[2] = append(of[2], faultProgram(map[string]string{slot: fault(code, slot, kind)}))
			}
		}
	}
	for how, sources := range of {
		for _, src := range sources {
			_, most := impl.DeskNew(src, 2000)
			if most != how {
				t.Errorf("%d, not %d, of %.200q", most, how, src)
			}
			for _, words := range append(edgeNumbers(), -1, 0, 1, 2, 3, 13, 14, 15, 100, 1999, 2000, 2001) {
				m, got := impl.DeskNew(src, words)
				want := how
				if how == 0 {
					n := mustParse(t, src)
					if words < leastWords(n) || words > 2000 {
						want = 3
					} else if !sameMachine(m, machineOf(t, n, words)) || !impl.MachineOk(m) {
						t.Errorf("%s, %d words of %.200q", machineText(m), words, src)
					}
				}
				if got != want || want > 0 && !sameMachine(m, impl.Machine{}) {
					t.Errorf("%d %s, not %d, %d words of %.200q", got, machineText(m), want, words, src)
				}
				if said, count := impl.Session(src, words, "stack\nlast"); want > 0 && (said != "" || count != -1) || want == 0 && (said != "0\nnone\n" || count != 2) {
					t.Errorf("%d %q, %d words of %.200q", count, said, words, src)
				}
				checkDeskNew(t, src, words)
			}
		}
	}
	both := append(slices.Clone(of[1]), "q", "q; let", "let a = 1; let a = 2; }", manyLets("a", 13)+"let")
	for _, src := range both {
		for _, words := range []int{math.MinInt, -1, 0, 1, 2, 50, 2001, math.MaxInt} {
			if m, how := impl.DeskNew(src, words); how != 1 || !sameMachine(m, impl.Machine{}) {
				t.Errorf("%d, %d words of %.200q", how, words, src)
			}
		}
	}
}

func TestP20NewOfPrograms(t *testing.T) {
	count := map[int]int{}
	for i, n := range slices.Concat(compiledPrograms(t), livelyPrograms(200, 60)) {
		src := impl.Write(n)
		for _, words := range []int{leastWords(n) - 1, leastWords(n), leastWords(n) + 1, 40 + i, 2000, 2001} {
			count[checkDeskNew(t, src, words)]++
		}
	}
	for _, src := range judgeSources() {
		count[checkDeskNew(t, src, 100)]++
	}
	if count[0] < 200 || count[3] < 100 {
		t.Error("too few of a kind:", count)
	}
}

// wrongMachines: each is not MachineOk for one reason.
func wrongMachines() map[string]impl.Machine {
	out := map[string]impl.Machine{"zero": {}, "lines alone": {Lines: []string{"a"}}, "over": {Over: true, Code: 3}}
	for i, base := range phasesOf(shopMachine(stepA(impl.OpPop), 30, ref(impl.VObj, shopChild), impl.IntOf(4))) {
		turned := func(what string, turn func(m *impl.Machine)) {
			m := machineClone(base)
			turn(&m)
			out[fmt.Sprint(what, ", state ", i)] = m
		}
		turned("no unit", func(m *impl.Machine) { m.Unit = impl.Unit{} })
		turned("a step of no op", func(m *impl.Machine) { m.Unit.Codes[2].Steps[0].Op = 26 })
		turned("a long text", func(m *impl.Machine) { m.Unit.Texts[6] += "x" })
		turned("no phase", func(m *impl.Machine) { m.Marker.Phase += 3 })
		turned("At below 0", func(m *impl.Machine) { m.Marker.At = -1 })
		turned("a free one black", func(m *impl.Machine) { m.Marker.Black = append(m.Marker.Black, shopFree) })
		turned("no slab", func(m *impl.Machine) { m.Slab = impl.Slab{} })
		turned("blocks that are none", func(m *impl.Machine) { m.Slab.Words[shopYard] += 8 })
		turned("a long slab", func(m *impl.Machine) { m.Slab.Words = append(m.Slab.Words, heapOf(room(1970)).Words...) })
		turned("many values", func(m *impl.Machine) { m.Stack = make([]int, 1501) })
		turned("no frame", func(m *impl.Machine) { m.Frames = nil })
		turned("many frames", func(m *impl.Machine) { m.Frames = slices.Repeat(m.Frames[:1], 32) })
		turned("a frame of no code", func(m *impl.Machine) { m.Frames[0].Code = 4 })
		turned("a frame of a code below 0", func(m *impl.Machine) { m.Frames[1].Code = -1 })
		turned("no place of its steps", func(m *impl.Machine) { m.Frames[1].Pc = 3 })
		turned("a place below 0", func(m *impl.Machine) { m.Frames[0].Pc = -1 })
		turned("a scope that is none", func(m *impl.Machine) { m.Frames[0].Scope = impl.VUndef })
		turned("a scope nowhere", func(m *impl.Machine) { m.Frames[0].Scope = ref(impl.VInner, 1) })
		turned("Code below 0", func(m *impl.Machine) { m.Code = -1 })
		turned("a Code that is none, over", func(m *impl.Machine) { m.Code, m.Over = 6, true })
		turned("no value", func(m *impl.Machine) { m.Stack[1] = 8 })
		turned("a value that leads nowhere", func(m *impl.Machine) { m.Stack[0] = ref(impl.VObj, shopYard) })
		if base.Marker.Phase == impl.PhSweep {
			turned("a root that nobody met", func(m *impl.Machine) { m.Stack[1] = ref(impl.VText, shopLost) })
		}
	}
	return out
}

// Of what is not MachineOk each line tells bad, an empty one too, and turns nothing.
func TestP20BadMachines(t *testing.T) {
	lines := append(askingLines(), "run 0", "run 5", "run 999", "gc 0", "gc 1", "gc 100", strings.Repeat(";", 5000))
	wrong := wrongMachines()
	if len(wrong) < 100 {
		t.Error("too few:", len(wrong))
	}
	for what, m := range wrong {
		if impl.MachineOk(m) || wantMachineOk(m) {
			t.Fatalf("%s: %s", what, machineText(m))
		}
		for _, line := range lines {
			got, said := impl.DeskLine(m, line)
			if said != "bad" || !sameMachine(got, m) {
				t.Errorf("%s: %.100q tells %.100q, %s of %s", what, line, said, machineText(got), machineText(m))
			}
		}
	}
}

// deskMachines: machines that are resting, marking and sweeping, over and not, with lines and without.
func deskMachines(t *testing.T) []impl.Machine {
	t.Helper()
	var out []impl.Machine
	for i, src := range machineSources() {
		m := machineOf(t, mustParse(t, src), 70+20*(i%5))
		for _, steps := range []int{0, 3, 20 + 7*i, 4000} {
			states := phasesOf(impl.MachineRun(m, nil, steps))
			for j := range 4 {
				out = append(out, states[j*(len(states)-1)/3])
			}
		}
	}
	for _, base := range phasesOf(shopMachine(stepA(impl.OpPop), 30, ref(impl.VObj, shopChild), impl.IntOf(4), ref(impl.VFun, shopFar))) {
		for _, code := range []int{-1, 0, 1, 2, 3, 4, 5} {
			m := machineClone(base)
			if code >= 0 {
				m.Over, m.Code = true, code
			}
			m.Lines = [][]string{nil, {}, {""}, {"a", ""}, {"", "b"}, {"a\nb\n"}, {"\n"}, {"none"}, oddTexts()}[(code+1+m.Marker.Phase)%9]
			out = append(out, m)
		}
	}
	return out
}

func TestP20AskingTurnsNothing(t *testing.T) {
	met := map[string]int{}
	for _, m := range deskMachines(t) {
		met[fmt.Sprint(m.Marker.Phase, m.Over)]++
		for _, line := range askingLines() {
			got, said := impl.DeskLine(m, line)
			if !sameMachine(got, m) {
				t.Fatalf("%q turns %s to %s", line, machineText(m), machineText(got))
			}
			if _, want := wantDeskLine(m, line); said != want {
				t.Errorf("%q tells %q, not %q, of %s", line, said, want, machineText(m))
			}
		}
		for _, line := range noLines() {
			if _, said := impl.DeskLine(m, line); said != "what" {
				t.Errorf("%q tells %q", line, said)
			}
		}
		for _, line := range []string{"run 0", "gc 0"} {
			tells(t, m, line, wantOutText(wantTold(m)))
		}
	}
	for _, kind := range []string{"0 true", "0 false", "1 true", "1 false", "2 true", "2 false"} {
		if met[kind] < 20 {
			t.Errorf("too few of %s: %v", kind, met)
		}
	}
}

// Lines of one byte and of two, and each word with any byte put in, put ahead, put behind, in place of another, and with one less.
func TestP20WordsAndBytes(t *testing.T) {
	m := shopMachine(stepA(impl.OpPop), 30, impl.VNull)
	told := map[string]string{"slab": "s4 s4 t3 t2 t4 o3 c4 o3 f3 f3 t7 o3 .30", "live": "18", "last": "ahead", "stack": "1"}
	words := []string{"slab", "live", "last", "stack"}
	for _, word := range words {
		tells(t, m, word, told[word])
	}
	check := func(line string) {
		t.Helper()
		want := told[line]
		if want == "" && line != "" && line[0] != ';' {
			want = "what"
		}
		tells(t, m, line, want)
	}
	for a := range 256 {
		check(string([]byte{byte(a)}))
		for _, b := range []byte(" ;slrgc05\n\x00\xff") {
			check(string([]byte{byte(a), b}))
			check(string([]byte{b, byte(a)}))
		}
		for _, word := range words {
			for i := range len(word) + 1 {
				check(word[:i] + string([]byte{byte(a)}) + word[i:])
				if i < len(word) {
					check(word[:i] + string([]byte{byte(a)}) + word[i+1:])
					check(word[:i] + word[i+1:])
				}
			}
		}
	}
	for _, one := range words {
		for _, other := range append(words, "run", "gc") {
			check(one + other)
			check(one + " " + other)
			check(other + " " + one)
		}
	}
}

// run and gc with one byte put in, put ahead, put behind or in place of another are right where the form is.
func TestP20NumbersAndBytes(t *testing.T) {
	t.Parallel()
	base := machineOf(t, mustParse(t, "let l = null; while (1) { l = {l: l}; print 1; l = null; }"), 40)
	base = impl.MachineRun(base, nil, 30)
	right := map[string]int{}
	for _, line := range []string{"run 5", "run 10", "run 100", "run 0", "gc 1", "gc 99", "gc 100", "gc 0", "run 205", "gc 999"} {
		for i := range len(line) + 1 {
			for a := range 256 {
				one := string([]byte{byte(a)})
				lines := []string{line[:i] + one + line[i:]}
				if i < len(line) {
					lines = append(lines, line[:i]+one+line[i+1:])
				}
				for _, line := range lines {
					if numbered.MatchString(line) {
						right[line]++
						checkLine(t, "a byte", base, line)
					} else if _, said := impl.DeskLine(base, line); said != "what" && line[0] != ';' {
						t.Errorf("%q tells %q", line, said)
					}
				}
			}
		}
	}
	if len(right) < 200 {
		t.Error("too few that are right:", len(right))
	}
}

func TestP20EachNumber(t *testing.T) {
	t.Parallel()
	loop := machineOf(t, mustParse(t, "let i = 0; while (1) { i = i + 1; print i; }"), 20)
	kept := phasesOf(shopMachine(stepA(impl.OpPop), 30, ref(impl.VObj, shopChild)))
	for n := range 1001 {
		number := strconv.Itoa(n)
		if n == 1000 {
			tells(t, loop, "run 1000", "what")
			tells(t, kept[0], "gc 1000", "what")
			break
		}
		got, said := impl.DeskLine(loop, "run "+number)
		if want := impl.MachineRun(loop, nil, n); !sameMachine(got, want) || said != "fuel "+strconv.Itoa(len(want.Lines)) {
			t.Errorf("run %d: %q %s", n, said, machineText(got))
		}
		for i, m := range kept {
			if n > 120 && n%7 > 0 && (i+n)%11 > 0 {
				continue
			}
			got, said := impl.DeskLine(m, "gc "+number)
			if want := wantGc(m, n); !sameMachine(got, want) || said != "fuel 1" {
				t.Errorf("gc %d: %q %s, not %s", n, said, machineText(got), machineText(want))
			}
		}
		if n > 0 && n < 100 {
			tells(t, loop, "run 0"+number, "what")
			tells(t, loop, "gc 0"+number, "what")
		}
	}
	// by one step a line, and by many: the same
	one := loop
	for n := 1; n <= 300; n++ {
		one, _ = impl.DeskLine(one, "run 1")
		if got, _ := impl.DeskLine(loop, "run "+strconv.Itoa(n)); !sameMachine(got, one) {
			t.Errorf("run %d is not so many times run 1", n)
		}
	}
}

// gc 99 marks or sweeps; gc 100 tidies all.
func TestP20TidyFrom100(t *testing.T) {
	m := shopMachine(stepA(impl.OpPop), 30, ref(impl.VObj, shopChild))
	for i, phase := range []int{impl.PhMark, impl.PhSweep, impl.PhRest, impl.PhMark} {
		for _, line := range []string{"gc 100", "gc 101", "gc 999"} {
			all, said := impl.DeskLine(m, line)
			if said != "fuel 1" || impl.SlabText(all.Slab) != "s4 s4 t3 o3 c4 o3 .52" || !sameMarker(all.Marker, impl.Marker{}) {
				t.Errorf("%d: %s: %q %s", i, line, said, machineText(all))
			}
		}
		part, said := impl.DeskLine(m, "gc 99")
		want := "s4 s4 t3 t2 t4 o3 c4 o3 f3 f3 t7 o3 .30"
		if i > 1 {
			want = "s4 s4 t3 .6 o3 c4 o3 .46"
		}
		if said != "fuel 1" || part.Marker.Phase != phase || impl.SlabText(part.Slab) != want {
			t.Errorf("%d: gc 99: %q %s", i, said, machineText(part))
		}
		m = part
	}
}

// What is over does no step more; it may be tidied yet.
func TestP20RunOfWhatIsOver(t *testing.T) {
	for _, base := range phasesOf(shopMachine(stepA(impl.OpPop), 30, ref(impl.VObj, shopChild))) {
		for code, name := range []string{"end", "type", "calls", "fuel", "room", "bad"} {
			m := machineClone(base)
			m.Over, m.Code, m.Lines = true, code, make([]string, code)
			for _, line := range []string{"run 0", "run 1", "run 5", "run 999"} {
				tells(t, m, line, name+" "+strconv.Itoa(code))
			}
			for _, line := range []string{"gc 1", "gc 99", "gc 100"} {
				if got := checkLine(t, name, m, line); !got.Over || got.Code != code || sameMachine(got, m) && line != "gc 100" {
					t.Errorf("%s of %s: %s", line, name, machineText(got))
				}
			}
			// a code beside what is not over is not told
			m.Over = false
			tells(t, m, "gc 0", "fuel "+strconv.Itoa(code))
		}
	}
}

func TestP20LastLiveStack(t *testing.T) {
	m := shopMachine(stepA(impl.OpPop), 30, impl.VNull)
	long := strings.Repeat("x", 100000)
	for _, c := range []struct {
		lines []string
		want  string
	}{
		{nil, "none"}, {[]string{}, "none"}, {[]string{""}, "none"}, {[]string{"a", ""}, "none"}, {[]string{"", "", ""}, "none"}, {[]string{"", "a"}, "a"}, {[]string{"a", "b"}, "b"}, {[]string{"b", "a"}, "a"}, {[]string{"a\nb"}, "a\nb"}, {[]string{"\n"}, "\n"}, {[]string{"a\n"}, "a\n"}, {[]string{"\na"}, "\na"},
		{[]string{" "}, " "}, {[]string{"\x00"}, "\x00"}, {[]string{"none"}, "none"}, {[]string{"what"}, "what"}, {[]string{"bad"}, "bad"}, {[]string{"; a"}, "; a"}, {[]string{"\xff\xfe"}, "\xff\xfe"}, {[]string{"a", long}, long}, {make([]string, 5000), "none"}, {append(make([]string, 5000), "5000"), "5000"},
	} {
		m.Lines = c.lines
		tells(t, m, "last", c.want)
	}
	for _, count := range []int{0, 1, 2, 9, 10, 99, 100, 1499, 1500} {
		m.Stack = slices.Repeat([]int{impl.IntOf(count)}, count)
		tells(t, m, "stack", strconv.Itoa(count))
	}
	m = shopMachine(stepA(impl.OpPop), 30, ref(impl.VObj, shopChild))
	lives := map[string]int{}
	for _, at := range phasesOf(m) {
		want := "21"
		if at.Marker.Phase == impl.PhSweep {
			want = "0"
		}
		lives[want]++
		tells(t, at, "live", want)
		tells(t, at, "slab", wantSlabText(at.Slab))
	}
	if lives["21"] < 4 || lives["0"] < 4 {
		t.Error("too few of a kind:", lives)
	}
}

// anyLine: mostly a right one.
func anyLine(rnd *dice) string {
	of := func(list []string) string { return list[rnd.below(len(list))] }
	switch rnd.below(12) {
	case 0, 1, 2:
		return "run " + strconv.Itoa([]int{rnd.below(10), rnd.below(60), rnd.below(1000)}[rnd.below(3)])
	case 3, 4, 5:
		return "gc " + strconv.Itoa([]int{rnd.below(4), rnd.below(103), 1, 100, rnd.below(1000)}[rnd.below(5)])
	case 6:
		return "live"
	case 7:
		return "last"
	case 8:
		return "stack"
	case 9:
		return "slab"
	case 10:
		return of(noLines())
	}
	return of([]string{"", "", ";", "; run 5", "; a\tb", ";;"})
}

func anyLines(rnd *dice, count int) string {
	out := ""
	for i := range count {
		out += strings.ReplaceAll(anyLine(rnd), "\n", "")
		if i < count-1 || rnd.below(2) == 0 {
			out += "\n"
		}
	}
	return out
}

// Programs of every kind of statement moved by lines of every kind: the session, and each of its lines by itself.
func TestP20Sessions(t *testing.T) {
	t.Parallel()
	rnd := &dice{201}
	sources := judgeSources()
	for _, n := range append(livelyPrograms(202, 80), compiledPrograms(t)...) {
		sources = append(sources, impl.Write(n))
	}
	met := map[string]int{}
	for i, src := range sources {
		words := []int{30, 60, 100, 400}[i%4]
		text := anyLines(rnd, 1+rnd.below(60))
		m, how := impl.DeskNew(src, words)
		said, count := impl.Session(src, words, text)
		checkSession(t, src, words, text)
		if how > 0 {
			met["none"]++
			continue
		}
		lines := wantLinesOf(text)
		told := ""
		for _, line := range lines {
			next := checkLine(t, src, m, line)
			_, one := impl.DeskLine(m, line)
			if one != "" {
				told += one + "\n"
			}
			met[fmt.Sprint(next.Marker.Phase, next.Over)]++
			if next.Over {
				met["over "+strconv.Itoa(next.Code)]++
			}
			m = next
		}
		if told != said || count != len(lines) {
			t.Errorf("%d %.500q, not %d %.500q, of %q, %d words, %q", count, said, len(lines), told, src, words, text)
		}
	}
	for _, kind := range []string{"0 false", "0 true", "1 false", "1 true", "2 false", "2 true", "over 0", "over 1", "over 4"} {
		if met[kind] < 20 {
			t.Errorf("too few of %s: %v", kind, met)
		}
	}
}

// A session with what asks between its lines ends as one without.
func TestP20AskingInASession(t *testing.T) {
	t.Parallel()
	rnd := &dice{203}
	tail := []string{"slab", "live", "last", "stack"}
	end := func(src string, words int, lines []string) string {
		said, count := impl.Session(src, words, strings.Join(append(lines, tail...), "\n"))
		told := strings.Split(said, "\n")
		if count != len(lines)+len(tail) || len(told) < 5 {
			t.Fatalf("%d %q", count, said)
		}
		return strings.Join(told[len(told)-5:], "\n")
	}
	for i, src := range machineSources() {
		var moves, all []string
		asks := askingLines()
		for range 18 {
			move := []string{"run " + strconv.Itoa(rnd.below(40)), "gc " + strconv.Itoa(rnd.below(110))}[rnd.below(2)]
			moves, all = append(moves, move), append(all, asks[rnd.below(12)], move, asks[rnd.below(12)])
		}
		if short, long := end(src, 90+i, moves), end(src, 90+i, all); short != long {
			t.Errorf("%q, not %q, of %q, %q", long, short, src, all)
		}
	}
}

func TestP20LinesOfASession(t *testing.T) {
	src := "print 5;"
	of := func(text, want string, count int) {
		t.Helper()
		if said, n := impl.Session(src, 20, text); said != want || n != count {
			t.Errorf("%d %.200q, not %d %.200q, of %.200q", n, said, count, want, text)
		}
		checkSession(t, src, 20, text)
	}
	of("", "", 0)
	of("\n", "", 1)
	of("\n\n\n", "", 3)
	of("stack", "0\n", 1)
	of("stack\n", "0\n", 1)
	of("stack\n\n", "0\n", 2)
	of("\nstack", "0\n", 2)
	of("stack\n\nstack", "0\n0\n", 3)
	of("stack\nlast", "0\nnone\n", 2)
	of("stack\n;\n\nlast\n", "0\nnone\n", 4)
	of("run 1\nstack", "fuel 0\n1\n", 2)
	of("run 2\n\n;\nlast", "fuel 1\n5\n", 4)
	of(";", "", 1)
	of("; a\nstack", "0\n", 2)
	of("\x00", "what\n", 1)
	of("stack\r\nstack\r", "what\nwhat\n", 2)
	of("stack\vstack\fstack\u2028stack\u0085stack", "what\n", 1)
	for _, line := range []string{"", ";", "stack", "what", "run 0"} {
		told := map[string]string{"stack": "0\n", "what": "what\n", "run 0": "fuel 0\n"}[line]
		for count := range 130 {
			want, n := strings.Repeat(told, count), count
			if count > 60 {
				want, n = "", -2
			}
			of(strings.Repeat(line+"\n", count), want, n)
			if line != "" && count > 0 {
				of(strings.Repeat(line+"\n", count-1)+line, want, n)
			}
			if count >= 60 {
				want, n = "", -2
			} else {
				want, n = want+"0\n", count+1
			}
			of(strings.Repeat(line+"\n", count)+"stack", want, n)
		}
	}
	of(strings.Repeat("\n", 60), "", 60)
	of(strings.Repeat("\n", 60)+" ", "", -2)
	of(strings.Repeat("\n", 61), "", -2)
	of(strings.Repeat("\n", 59)+"stack", "0\n", 60)
	of(strings.Repeat(";", 61), "", 1)
	// of what there is none, too many lines or not
	for _, c := range []struct {
		src   string
		words int
	}{{"let", 20}, {"q;", 20}, {"", 1}, {"", -1}, {"", 2001}, {"let", -1}, {"q;", 0}} {
		for _, text := range []string{"", "stack", "\n", strings.Repeat("\n", 60), strings.Repeat("\n", 61), strings.Repeat("stack\n", 500)} {
			if said, count := impl.Session(c.src, c.words, text); said != "" || count != -1 {
				t.Errorf("%d %.200q of %q, %d words, %.100q", count, said, c.src, c.words, text)
			}
		}
	}
	if said, count := impl.Session("", 2, strings.Repeat("stack\n", 500)); said != "" || count != -2 {
		t.Errorf("%d %.200q", count, said)
	}
}

func TestP21AnySession(t *testing.T) {
	t.Parallel()
	rnd := &dice{204}
	anyText := func() string {
		parts := append(oddTexts(), "run 5", "gc 100", "gc 1", "slab", "live", "last", "stack", "\n", "\n", "\n", ";", " ", "0", "9", "print 1;", "let a = 1;", "while (1) {", "}", "a", "print \"a\";", "function(b) { }", "\n\n")
		out := ""
		for range rnd.below(9) {
			out += parts[rnd.below(len(parts))]
		}
		return out
	}
	met := map[int]int{}
	for range 20000 {
		src := anyText()
		if rnd.below(2) == 0 {
			src = []string{"", "print 1;", "let a = {b: 1}; while (a) { print a.b; }", "let t = \"a\"; t = t + t; print t;", "print a;"}[rnd.below(5)]
		}
		words := edgeNumbers()[rnd.below(len(edgeNumbers()))]
		if rnd.below(3) > 0 {
			words = rnd.below(60)
		}
		text := anyText()
		if rnd.below(8) == 0 {
			text += strings.Repeat("\n", 50+rnd.below(15)) + anyText()
		}
		met[checkDeskNew(t, src, words)]++
		checkSession(t, src, words, text)
		if _, count := impl.Session(src, words, text); count < 0 {
			met[count]++
		}
	}
	for _, kind := range []int{0, 1, 2, 3, -1, -2} {
		if met[kind] < 100 {
			t.Error("too few of a kind:", met)
		}
	}
}

func TestP21AnyMachineAtADesk(t *testing.T) {
	t.Parallel()
	rnd := &dice{205}
	met := map[string]int{}
	for range 6000 {
		m := anyMachine(rnd, 4)
		for range 3 {
			line := anyLine(rnd)
			if rnd.below(8) == 0 {
				line = oddTexts()[rnd.below(len(oddTexts()))]
			}
			met[fmt.Sprint(m.Marker.Phase, wantMachineOk(m))]++
			m = checkLine(t, "any", m, line)
		}
		if t.Failed() {
			return
		}
	}
	for _, kind := range []string{"0 true", "0 false", "1 true", "1 false", "2 true", "2 false"} {
		if met[kind] < 300 {
			t.Errorf("too few of %s: %v", kind, met)
		}
	}
	// a black block that leads to what was not met: by one line it sweeps what is not right, which the next one tells
	m := shopMachine(stepA(impl.OpPop), 30, impl.VNull)
	m.Marker = marking(nil, []int{shopYard, shopRoom})
	next, said := impl.DeskLine(m, "gc 1")
	if want := impl.Gc(m, 1); said != "fuel 1" || !sameMachine(next, want) || impl.MachineOk(next) {
		t.Errorf("%q %s, not %s", said, machineText(next), machineText(want))
	}
	tells(t, next, "stack", "bad")
}

func TestP21GreatAtADesk(t *testing.T) {
	const many = 1000000
	wide := strings.Repeat("x", many)
	m := shopMachine(stepA(impl.OpPop), 30, impl.VNull)
	for _, line := range []string{wide, "run " + wide, "run " + strings.Repeat("0", many), "gc " + strings.Repeat("9", many), strings.Repeat(" ", many), strings.Repeat("\n", many), strings.Repeat("run 5", many), strings.Repeat("\xff", many)} {
		tells(t, m, line, "what")
	}
	tells(t, m, ";"+wide, "")
	m.Lines = append(make([]string, many/5), wide)
	tells(t, m, "last", wide)
	tells(t, m, "gc 0", "fuel "+strconv.Itoa(many/5+1))
	m.Lines = nil
	long := make([]int, many/5)
	for what, turn := range map[string]func(m *impl.Machine){
		"stack": func(m *impl.Machine) { m.Stack = long }, "frames": func(m *impl.Machine) { m.Frames = slices.Repeat(m.Frames, many/5) }, "slab": func(m *impl.Machine) { m.Slab.Words = long }, "grey": func(m *impl.Machine) { m.Marker = marking(long, nil) }, "black": func(m *impl.Machine) { m.Marker = sweeping(0, long...) },
		"codes": func(m *impl.Machine) { m.Unit.Codes = slices.Repeat(m.Unit.Codes, many/20) }, "texts": func(m *impl.Machine) { m.Unit.Texts = make([]string, many/5) }, "steps": func(m *impl.Machine) { m.Unit.Codes[1].Steps = slices.Repeat(m.Unit.Codes[1].Steps, many/5) },
		"free blocks": func(m *impl.Machine) { m.Slab.Words = heapOf(slices.Repeat([]body{room(2)}, many/5)...).Words },
	} {
		great := machineClone(m)
		turn(&great)
		for _, line := range []string{"", ";", "slab", "run 1", "gc 100", "live", wide} {
			got, said := impl.DeskLine(great, line)
			if said != "bad" || !sameMachine(got, great) {
				t.Errorf("%s: %.100q tells %.100q", what, line, said)
			}
		}
	}
	for _, src := range []string{wide, strings.Repeat("print 1;", many), strings.Repeat("(", many), strings.Repeat("\n", many), strings.Repeat("{", many), strings.Repeat("\xff", many)} {
		for _, words := range []int{math.MinInt, 0, 20, math.MaxInt} {
			if m, how := impl.DeskNew(src, words); how != 1 || !sameMachine(m, impl.Machine{}) {
				t.Errorf("%d of %.100q", how, src)
			}
			if said, count := impl.Session(src, words, strings.Repeat("\n", many)); said != "" || count != -1 {
				t.Errorf("%d %.100q of %.100q", count, said, src)
			}
		}
	}
	for _, text := range []string{strings.Repeat("\n", many), strings.Repeat("run 999\n", many), wide + strings.Repeat("\n", 61)} {
		if said, count := impl.Session("while (1) { }", 20, text); said != "" || count != -2 {
			t.Errorf("%d %.100q", count, said)
		}
	}
	for text, want := range map[string]string{wide: "what\n", ";" + wide: "", "stack\n" + wide + "\nstack": "0\nwhat\n0\n"} {
		if said, count := impl.Session("", 20, text); said != want || count != strings.Count(text, "\n")+1 {
			t.Errorf("%d %.100q", count, said)
		}
	}
	// as long as may be
	if said, count := impl.Session("let l = null; while (1) { l = {v: l}; l.v = null; }", 60, strings.Repeat("run 999\n", 60)); said != strings.Repeat("fuel 0\n", 60) || count != 60 {
		t.Errorf("%d %.100q", count, said)
	}
}

// Nothing is written into what was handed in, nor behind it; what is told shares nothing with it, and no two of its lists share.
func TestP21DesksAreNew(t *testing.T) {
	t.Parallel()
	rnd := &dice{206}
	var machines []impl.Machine
	for range 300 {
		machines = append(machines, anyMachine(rnd, 4))
	}
	for _, m := range wrongMachines() {
		machines = append(machines, m)
	}
	shared := shopMachine(stepA(impl.OpNull), 30, impl.VNull)
	shared.Unit.Codes[3].Steps = shared.Unit.Codes[2].Steps
	one := shopMachine(stepA(impl.OpNull), 30)
	one.Stack, one.Marker = one.Slab.Words[:1], marking(one.Slab.Words[1:1], nil)
	machines = append(machines, shared, phasesOf(shared)[5], one, impl.Machine{Stack: []int{}, Lines: []string{}, Frames: []impl.Frame{}, Unit: impl.Unit{Codes: []impl.Code{{}}, Texts: []string{}}})
	lines := []string{"run 0", "run 4", "run 200", "gc 0", "gc 1", "gc 100", "slab", "live", "last", "stack", "", "; a", "no", "run 05"}
	for i, m := range machines {
		whole := roomyMachine(m)
		if i%3 == 0 {
			whole = m
		}
		before := wholeMachine(whole)
		for _, line := range lines {
			first, said := impl.DeskLine(whole, line)
			second, _ := impl.DeskLine(whole, line)
			want := machineClone(first)
			spoilLists(t, line, first)
			if third, again := impl.DeskLine(whole, line); !sameMachine(second, want) || !sameMachine(third, want) || said != again {
				t.Errorf("%q: %s and %s, not %s", line, machineText(second), machineText(third), machineText(want))
			}
			if now := wholeMachine(whole); now != before {
				t.Fatalf("%q: it was written into: %s, not %s", line, now, before)
			}
			handed := roomyMachine(m)
			got, said := impl.DeskLine(handed, line)
			text := strings.Clone(said)
			spoilLists(t, "handed in", handed)
			if !sameMachine(got, want) || said != text {
				t.Fatalf("%q: what was told is turned: %s, not %s", line, machineText(got), machineText(want))
			}
		}
	}
	for _, src := range machineSources() {
		first, _ := impl.DeskNew(src, 60)
		second, _ := impl.DeskNew(src, 60)
		want := machineClone(first)
		spoilLists(t, src, first)
		if third, _ := impl.DeskNew(src, 60); !sameMachine(second, want) || !sameMachine(third, want) {
			t.Errorf("new of %q: %s and %s, not %s", src, machineText(second), machineText(third), machineText(want))
		}
	}
}

// Nothing goes on when it has answered, and nothing is kept from one call to another.
func TestP21NoDeskGoesOn(t *testing.T) {
	before := runtime.NumGoroutine()
	text := "run 30\ngc 1\ngc 1\ngc 9\nslab\nlive\ngc 1\ngc 99\ngc 3\nrun 999\ngc 100\nlast\nstack\nno\n;\n"
	told := map[string]string{}
	for round := range 3 {
		for _, src := range append(judgeSources(), "q;", "let") {
			for _, words := range []int{0, 20, 60, 200} {
				said, count := impl.Session(src, words, text)
				key := strconv.Itoa(words) + src
				if round > 0 && told[key] != strconv.Itoa(count)+said {
					t.Errorf("%d %q, %s ahead of that, of %q", count, said, told[key], src)
				}
				told[key] = strconv.Itoa(count) + said
			}
		}
	}
	wantNoMore(t, before)
}

func TestP21DesksSideBySide(t *testing.T) {
	t.Parallel()
	sources := machineSources()
	text := "run 20\ngc 1\ngc 5\nslab\nlive\ngc 2\nrun 50\nlast\nstack\ngc 100\nrun 300\nslab\nno\n"
	machines := deskMachines(t)[:120]
	var wants []string
	for i, src := range sources {
		said, count := wantSession(src, 50+i, text)
		wants = append(wants, strconv.Itoa(count)+said)
	}
	var all sync.WaitGroup
	for range 12 {
		all.Go(func() {
			for i, src := range sources {
				if said, count := impl.Session(src, 50+i, text); strconv.Itoa(count)+said != wants[i] {
					t.Errorf("%d %q, not %q", count, said, wants[i])
				}
			}
			for i, m := range machines {
				checkLine(t, "side by side", m, []string{"gc 1", "run 5", "slab", "live", "gc 100", "no", "last"}[i%7])
			}
		})
	}
	all.Wait()
}
