package tests

import (
	"math"
	"slices"
	"strconv"
	"strings"
	"sync"
	"testing"

	"loop.example/g00242/impl"
)

func wantCodeText(c impl.Code) string {
	lines := make([]string, 0, len(c.Steps)+1)
	for i, s := range c.Steps {
		lines = append(lines, strconv.Itoa(i)+" "+wantStepText(s))
	}
	return strings.Join(append(lines, ""), "\n")
}

func wantSlabText(s impl.Slab) string {
	_, sizes, kinds, ok := wantBlocks(s)
	if !ok {
		return ""
	}
	letters := map[int]string{0: ".", 1: "t", 2: "o", 3: "c", 4: "f", 5: "s"}
	var parts []string
	for i, size := range sizes {
		parts = append(parts, letters[kinds[i]]+strconv.Itoa(size))
	}
	return strings.Join(parts, " ")
}

func wantOutText(o impl.Outcome) string {
	name, ok := map[int]string{0: "end", 1: "type", 2: "calls", 3: "fuel", 4: "room", 5: "bad"}[o.Code]
	if !ok {
		return ""
	}
	return name + " " + strconv.Itoa(len(o.Lines))
}

func checkCodeText(t *testing.T, what string, c impl.Code) {
	t.Helper()
	if got, want := impl.CodeText(c), wantCodeText(c); got != want {
		t.Errorf("%s: %.500q, not %.500q", what, got, want)
	}
}

func checkSlabText(t *testing.T, what string, s impl.Slab) {
	t.Helper()
	if got, want := impl.SlabText(s), wantSlabText(s); got != want {
		t.Errorf("%s: %.500q, not %.500q, of %d words", what, got, want, len(s.Words))
	}
}

func checkOutText(t *testing.T, what string, o impl.Outcome) {
	t.Helper()
	if got, want := impl.OutText(o), wantOutText(o); got != want {
		t.Errorf("%s: %.200q, not %q, of code %d and %d lines", what, got, want, o.Code, len(o.Lines))
	}
}

// shownPieces reads what is shown back; false where it is not as such a text is.
func shownPieces(text string) ([]piece, bool) {
	if text == "" {
		return nil, true
	}
	var out []piece
	for _, part := range strings.Split(text, " ") {
		if part == "" {
			return nil, false
		}
		kind := strings.IndexByte(".tocfs", part[0])
		size, err := strconv.Atoi(part[1:])
		if kind < 0 || err != nil || strconv.Itoa(size) != part[1:] {
			return nil, false
		}
		out = append(out, piece{kind: kind, size: size})
	}
	return out, true
}

// checkShown: a right slab is shown word for word, as promise 19 has it: each part is its block's, in order, and no word is left out.
func checkShown(t *testing.T, what string, s impl.Slab) {
	t.Helper()
	checkSlabText(t, what, s)
	text := impl.SlabText(s)
	pieces, ok := shownPieces(text)
	if !ok {
		t.Fatalf("%s: %.300q is no slab's text", what, text)
	}
	places, at := impl.Blocks(s), 0
	if len(places) != len(pieces) {
		t.Fatalf("%s: %d blocks, but %.300q", what, len(places), text)
	}
	for i, p := range pieces {
		if places[i] != at || impl.KindAt(s, at) != p.kind || impl.SizeAt(s, at) != p.size {
			t.Errorf("%s: part %d of %.300q, a block at %d of kind %d and size %d", what, i, text, places[i], impl.KindAt(s, places[i]), impl.SizeAt(s, places[i]))
		}
		at += p.size
	}
	if at != len(s.Words) {
		t.Errorf("%s: %d words are shown of %d: %.300q", what, at, len(s.Words), text)
	}
}

// checkUnshown: of what is not right nothing is shown.
func checkUnshown(t *testing.T, what string, s impl.Slab) {
	t.Helper()
	if got := impl.SlabText(s); got != "" {
		t.Errorf("%s: %.300q of %.300v", what, got, s.Words)
	}
}

func TestP19CodeByHand(t *testing.T) {
	for _, c := range []struct {
		steps []impl.Step
		want  string
	}{
		{nil, ""},
		{[]impl.Step{}, ""},
		{[]impl.Step{{Op: impl.OpReturn}}, "0 return\n"},
		{[]impl.Step{{Op: impl.OpUndef}, {Op: impl.OpReturn}}, "0 undef\n1 return\n"},
		{[]impl.Step{{Op: impl.OpLoad, A: 1, B: 2}, {Op: impl.OpStore, A: 0, B: 0}}, "0 load 1 2\n1 store 0 0\n"},
		{[]impl.Step{{Op: impl.OpInt}, {Op: impl.OpInt, A: -7}, {Op: impl.OpInt, A: 7, B: 9}}, "0 int 0\n1 int -7\n2 int 7\n"},
		{[]impl.Step{{Op: impl.OpReturn, A: 4, B: 5}, {Op: impl.OpPop, A: -1}, {Op: impl.OpCall, A: 3, B: 4}}, "0 return\n1 pop\n2 call 3\n"},
		{[]impl.Step{{}}, "0 \n"},
		{[]impl.Step{{A: 3, B: 4}, {Op: 26, A: 1}, {Op: -1}, {Op: impl.OpAdd}, {Op: 99}}, "0 \n1 \n2 \n3 add\n4 \n"},
		{[]impl.Step{{Op: math.MaxInt, A: 1}, {Op: math.MinInt, B: 1}}, "0 \n1 \n"},
	} {
		if got := impl.CodeText(impl.Code{Steps: c.steps}); got != c.want {
			t.Errorf("%q, not %q", got, c.want)
		}
		checkCodeText(t, "by hand", impl.Code{Steps: c.steps})
	}
	u, _ := impl.Compile(mustParse(t, `let i = 0; while (i < 3) { print "i"; i = i + 1; }`))
	want := "0 int 0\n1 store 0 0\n2 load 0 0\n3 int 3\n4 less\n5 else 13\n6 text 0\n7 print\n8 load 0 0\n9 int 1\n10 add\n11 store 0 0\n12 jump 2\n13 undef\n14 return\n"
	if got := impl.CodeText(u.Codes[0]); got != want {
		t.Errorf("%q, not %q", got, want)
	}
}

// Each op with its numbers at the ends of int and near to nought, alone and between others.
func TestP19CodeOfEachOp(t *testing.T) {
	names := []string{"int", "text", "undef", "null", "true", "false", "load", "store", "get", "put", "obj", "call", "return", "add", "sub", "mul", "less", "same", "not", "jump", "else", "print", "pop", "fun", "field"}
	for i, name := range names {
		text := impl.CodeText(impl.Code{Steps: []impl.Step{{Op: i + 1, A: 5, B: 6}}})
		row := opTable[i+1]
		want := map[bool]string{false: "", true: " 5"}[row.a != ""] + map[bool]string{false: "", true: " 6"}[row.b != ""]
		if text != "0 "+name+want+"\n" {
			t.Errorf("%d: %q", i+1, text)
		}
	}
	numbers := []int{0, 1, -1, 9, 10, -10, 2147483647, 2147483648, -2147483648, -2147483649, math.MaxInt, math.MinInt}
	for _, op := range append(noOps(), seq(-3, 30)...) {
		for _, a := range numbers {
			for _, b := range numbers {
				s := impl.Step{Op: op, A: a, B: b}
				checkCodeText(t, "alone", impl.Code{Steps: []impl.Step{s}})
				checkCodeText(t, "between", impl.Code{Steps: []impl.Step{{Op: impl.OpPop}, s, {Op: 99}, s, {Op: impl.OpReturn}}})
			}
		}
	}
	for _, n := range edgeNumbers() {
		if got, want := impl.CodeText(impl.Code{Steps: []impl.Step{{Op: impl.OpLoad, A: n, B: -n}}}), "0 load "+strconv.Itoa(n)+" "+strconv.Itoa(-n)+"\n"; got != want {
			t.Errorf("%q, not %q", got, want)
		}
		checkCodeText(t, "an op at the edges", impl.Code{Steps: []impl.Step{{Op: n, A: n, B: n}}})
	}
}

func seq(from, to int) []int {
	var out []int
	for n := from; n <= to; n++ {
		out = append(out, n)
	}
	return out
}

// Places of each length, with as many bytes 10 as there are steps; what stands there is the same at each place.
func TestP19PlacesOfSteps(t *testing.T) {
	for _, count := range []int{1, 2, 9, 10, 11, 99, 100, 101, 999, 1000, 1001, 1999, 2000, 2001, 10001} {
		var steps []impl.Step
		for i := range count {
			steps = append(steps, impl.Step{Op: i % 28, A: 3 * i, B: -i})
		}
		text := impl.CodeText(impl.Code{Steps: steps})
		if strings.Count(text, "\n") != count || !strings.HasSuffix(text, "\n") {
			t.Errorf("%d steps, %d lines", count, strings.Count(text, "\n"))
		}
		for i, line := range strings.Split(strings.TrimSuffix(text, "\n"), "\n") {
			if place, step, ok := strings.Cut(line, " "); !ok || place != strconv.Itoa(i) || step != impl.StepText(steps[i]) {
				t.Errorf("%d of %d: %q", i, count, line)
			}
		}
		checkCodeText(t, "steps", impl.Code{Steps: steps})
		short := impl.CodeText(impl.Code{Steps: steps[:count-1]})
		if !strings.HasPrefix(text, short) || text[len(short):] != strconv.Itoa(count-1)+" "+impl.StepText(steps[count-1])+"\n" {
			t.Errorf("the last one of %d: %q", count, text[len(short):])
		}
	}
}

// Codes of programs, read back step by step.
func TestP19CodeOfPrograms(t *testing.T) {
	for _, n := range append(compiledPrograms(t), livelyPrograms(194, 60)...) {
		u, _ := impl.Compile(n)
		for _, c := range u.Codes {
			text := impl.CodeText(c)
			var steps []impl.Step
			for _, line := range strings.Split(strings.TrimSuffix(text, "\n"), "\n") {
				_, step, _ := strings.Cut(line, " ")
				steps = append(steps, stepOf(step))
			}
			if !slices.Equal(steps, c.Steps) {
				t.Errorf("%q of %s", text, codeLine(c))
			}
			for _, n := range []int{0, -1, 7, 13, math.MaxInt, math.MinInt} {
				if other := impl.CodeText(impl.Code{Names: n, Vars: -n, Steps: c.Steps}); other != text {
					t.Errorf("with %d names %q, not %q", n, other, text)
				}
			}
			checkCodeText(t, "a program's", c)
		}
	}
}

func TestP19SlabByHand(t *testing.T) {
	for _, c := range []struct {
		s    impl.Slab
		want string
	}{
		{impl.Slab{}, ""},
		{impl.Slab{Words: []int{}}, ""},
		{impl.Slab{Words: []int{16, 0}}, ".2"},
		{impl.Slab{Words: []int{17, -5}}, "t2"},
		{laid(piece{0, 9, 0}), ".9"},
		{laid(piece{0, 10, 16}), ".10"},
		{laid(piece{0, 99, -1}), ".99"},
		{laid(piece{0, 100, 0}), ".100"},
		{laid(piece{0, 999, 0}), ".999"},
		{laid(piece{0, 1000, 0}), ".1000"},
		{laid(piece{0, 2000, 0}), ".2000"},
		{laid(piece{5, 2000, 0}), "s2000"},
		{laid(piece{0, 2, 0}, piece{1, 2, 0}, piece{2, 2, 0}, piece{3, 2, 0}, piece{4, 2, 0}, piece{5, 2, 0}), ".2 t2 o2 c2 f2 s2"},
		{laid(piece{5, 12, 0}, piece{4, 3, 0}, piece{3, 4, 0}, piece{2, 3, 0}, piece{1, 123, 0}, piece{0, 1234, 0}), "s12 f3 c4 o3 t123 .1234"},
		{laid(piece{0, 2, 0}, piece{0, 3, 0}, piece{0, 2, 0}), ".2 .3 .2"},
		{wholeHeap(), "t5 t2 t6 o3 o4 c4 c5 f3 f4 s2 s10 .3"},
	} {
		if got := impl.SlabText(c.s); got != c.want {
			t.Errorf("%q, not %q, of %v", got, c.want, c.s.Words)
		}
		checkShown(t, "by hand", c.s)
	}
	if got, want := impl.SlabText(laid(slices.Repeat([]piece{{1, 2, 16}}, 1000)...)), strings.TrimSuffix(strings.Repeat("t2 ", 1000), " "); got != want {
		t.Errorf("1000 blocks: %.100q", got)
	}
	s, _ := impl.SlabNew(60)
	want := []string{".60", "t5 .55", "t5 o3 .52", "t5 o3 c4 .48", "t5 o3 c4 s4 .44", "t5 .3 c4 s4 .44", "t5 .7 s4 .44", "t5 .55", ".60"}
	check := func() {
		t.Helper()
		if got := impl.SlabText(s); got != want[0] {
			t.Errorf("%q, not %q", got, want[0])
		}
		want = want[1:]
	}
	check()
	s, name := mustText(t, s, "key")
	check()
	s, obj := mustObj(t, s, impl.VNull)
	check()
	s = mustSet(t, s, obj, name, impl.IntOf(7))
	check()
	s, _ = mustScope(t, s, impl.VUndef, 2)
	check()
	for _, at := range []int{5, 8, 12, 0} {
		s = impl.Give(s, at)
		check()
	}
}

// Every kind of block in every size, alone and between others, whatever stands in its words.
func TestP19SlabOfEachBlock(t *testing.T) {
	fills := []int{0, 16, 17, -16, 8 * 2000, math.MaxInt, math.MinInt, 22}
	for kind := range 6 {
		for size := 2; size <= 2000; size++ {
			fill := fills[(size+kind)%len(fills)]
			one := laid(piece{kind, size, fill})
			if got, want := impl.SlabText(one), ".tocfs"[kind:kind+1]+strconv.Itoa(size); got != want {
				t.Errorf("%q, not %q", got, want)
			}
			if size <= 20 || size%97 == 0 || size > 1994 {
				checkShown(t, "alone", one)
			}
			if size > 1990 {
				continue
			}
			for other := range 6 {
				if (size+other)%5 == 0 || size < 13 {
					checkSlabText(t, "between", laid(piece{other, 2 + size%3, fill}, piece{kind, size, fill}, piece{(other + kind) % 6, 2, fill}))
				}
			}
		}
	}
}

// Rows of blocks of any kinds and sizes, up to the greatest slabs.
func TestP19AnySlabIsShown(t *testing.T) {
	rnd := &dice{195}
	edges := edgeNumbers()
	lengths := map[int]int{}
	for round := range 1500 {
		var pieces []piece
		left, most := 2+rnd.below(1999), []int{3, 12, 120, 1999}[round%4]
		for left >= 2 {
			size := min(left, 2+rnd.below(most))
			if left-size == 1 {
				size = left
			}
			pieces = append(pieces, piece{rnd.below(6), size, edges[rnd.below(len(edges))]})
			lengths[len(strconv.Itoa(size))]++
			left -= size
		}
		s := laid(pieces...)
		checkShown(t, "any", s)
		back, _ := shownPieces(impl.SlabText(s))
		for i := range pieces {
			pieces[i].fill = 0
		}
		if !slices.Equal(back, pieces) {
			t.Errorf("%v, not %v", back, pieces)
		}
	}
	for length := 1; length <= 4; length++ {
		if lengths[length] < 100 {
			t.Error("too few sizes of a length:", lengths)
		}
	}
}

// Words within blocks change nothing; the first words of blocks do.
func TestP19WordsTurned(t *testing.T) {
	rnd := &dice{196}
	slabs := []impl.Slab{wholeHeap(), shop(9), anyHeap(rnd), anyScopes(rnd), laid(piece{1, 2, 0}), laid(piece{0, 4, 0}, piece{2, 3, 0})}
	for _, s := range slabs {
		text, places := impl.SlabText(s), impl.Blocks(s)
		for at := range s.Words {
			for _, word := range append(edgeNumbers(), s.Words[at]+1, s.Words[at]-1, s.Words[at]+8, s.Words[at]-8) {
				turned := impl.Slab{Words: slices.Clone(s.Words)}
				turned.Words[at] = word
				if !slices.Contains(places, at) {
					if got := impl.SlabText(turned); got != text {
						t.Errorf("%q, not %q, with %d at %d", got, text, word, at)
					}
					continue
				}
				checkSlabText(t, "turned", turned)
				if got := impl.SlabText(turned); got == text && word != s.Words[at] {
					t.Errorf("%q with %d at %d, too", got, word, at)
				}
			}
		}
	}
	for kind := range 6 {
		for _, size := range []int{2, 3, 9, 10, 100, 1000, 2000} {
			s := laid(piece{kind, size, 16})
			last := impl.Slab{Words: slices.Clone(s.Words)}
			last.Words[size-1] = math.MinInt
			checkShown(t, "the last word", last)
			for _, more := range []int{1, 2, 1000, math.MaxInt/8 - size} {
				great := impl.Slab{Words: slices.Clone(s.Words)}
				great.Words[0] += 8 * more
				checkUnshown(t, "too great a first word", great)
			}
			for _, less := range []int{size - 1, size, size + 1, 2*size + 2} {
				small := impl.Slab{Words: slices.Clone(s.Words)}
				small.Words[0] -= 8 * less
				checkUnshown(t, "too small a first word", small)
			}
		}
	}
}

func TestP19NoSlabIsShown(t *testing.T) {
	for what, s := range wrongSlabs() {
		checkUnshown(t, what, s)
		checkSlabText(t, what, s)
	}
	for what, s := range rightSlabs() {
		checkShown(t, what, s)
		for _, word := range []int{0, 8, 9, 15, -8, -16, 22, 23, 16, 24, math.MaxInt, math.MinInt} {
			checkUnshown(t, what+" and a word", impl.Slab{Words: append(slices.Clone(s.Words), word)})
		}
	}
	for size := 1; size <= 2001; size++ {
		checkUnshown(t, "noughts", impl.Slab{Words: make([]int, size)})
	}
	for _, size := range []int{2001, 2002, 2500, 4000} {
		checkUnshown(t, "too long", laid(piece{0, size, 0}))
		checkUnshown(t, "too long, in two", laid(piece{0, size - 1000, 0}, piece{1, 1000, 0}))
		checkUnshown(t, "too long, its beginning right", impl.Slab{Words: append(laid(piece{0, 2000, 0}).Words, make([]int, size-2000)...)})
	}
	shown := 0
	for what, heap := range wrongHeaps() {
		checkSlabText(t, what, heap)
		if impl.SlabOk(heap) {
			checkShown(t, what, heap)
			shown++
		}
	}
	if shown < 5 {
		t.Error("too few that are no heaps:", shown)
	}
}

// Slabs of running programs, marked, swept and slid, behind each step.
func TestP19SlabsOfMachines(t *testing.T) {
	seen := map[byte]int{}
	for i, src := range machineSources() {
		m := machineOf(t, mustParse(t, src), 60+30*(i%4))
		for step := range 120 {
			checkShown(t, src, m.Slab)
			for _, part := range strings.Fields(impl.SlabText(m.Slab)) {
				seen[part[0]]++
			}
			m = impl.MachineStep(impl.Gc(m, []int{0, 1, 3, 0, 100}[(step/7+i)%5]))
		}
	}
	for _, letter := range []byte(".tocfs") {
		if seen[letter] < 20 {
			t.Errorf("too few of %c: %v", letter, seen)
		}
	}
}

func TestP19OutByHand(t *testing.T) {
	lists := map[int][]string{0: nil, 1: {""}, 2: {"a", "b\n"}, 9: make([]string, 9), 10: make([]string, 10), 100: make([]string, 100), 1234: make([]string, 1234), 70000: make([]string, 70000)}
	for count, lines := range lists {
		for code, name := range []string{"end", "type", "calls", "fuel", "room", "bad"} {
			if got, want := impl.OutText(impl.Outcome{Code: code, Lines: lines}), name+" "+strconv.Itoa(count); got != want {
				t.Errorf("%q, not %q", got, want)
			}
		}
		for _, code := range []int{-1, -2, -6, 6, 7, 8, 9, 100, 256, 1 << 32, 1<<32 + 1, -(1 << 32), 1 << 62, math.MaxInt, math.MinInt, math.MinInt + 1} {
			if got := impl.OutText(impl.Outcome{Code: code, Lines: lines}); got != "" {
				t.Errorf("%q of code %d", got, code)
			}
		}
		for _, code := range edgeNumbers() {
			checkOutText(t, "at the edges", impl.Outcome{Code: code, Lines: lines})
		}
	}
	if got := impl.OutText(impl.Outcome{}); got != "end 0" {
		t.Errorf("%q", got)
	}
	if got := impl.OutText(impl.Outcome{Lines: []string{}}); got != "end 0" {
		t.Errorf("%q of an empty list", got)
	}
	for _, c := range []struct{ src, want string }{
		{"", "end 0"}, {"print 1;", "end 1"}, {"print 1; print 2; 1.p;", "type 2"}, {"let f = function() { print 1; f(); }; f();", "calls 30"}, {"while (1) { }", "fuel 0"}, {"print q;", "bad 0"},
	} {
		if got := impl.OutText(impl.Plain(mustParse(t, c.src), 200000)); got != c.want {
			t.Errorf("%q, not %q, of %s", got, c.want, c.src)
		}
	}
	room := machineOf(t, mustParse(t, `print 7; print "a text that is too long";`), 8)
	if got := impl.OutText(impl.Told(impl.MachineRun(room, nil, 100))); got != "room 1" {
		t.Errorf("%q", got)
	}
}

func TestP21AnyShown(t *testing.T) {
	rnd := &dice{197}
	shown, codes, outs := 0, 0, 0
	const count = 6000
	for range count {
		u := anyUnit(rnd, 2+rnd.below(9))
		for _, c := range u.Codes {
			checkCodeText(t, "any", c)
			codes++
		}
		checkOutText(t, "any", anyOutcome(rnd))
		if impl.OutText(anyOutcome(rnd)) != "" {
			outs++
		}
		s := []impl.Slab{anyHeap(rnd), anyScopes(rnd), anyStore(rnd, rnd.below(4)), anyMachine(rnd, 4).Slab, {Words: anyRoots(rnd, wholeHeap())}}[rnd.below(5)]
		words := slices.Clone(s.Words)
		for range rnd.below(3) {
			if len(words) > 0 {
				words[rnd.below(len(words))] = []int{rnd.below(200), -rnd.below(200), edgeNumbers()[rnd.below(300)]}[rnd.below(3)]
			}
		}
		words = words[rnd.below(min(2, len(words)+1)) : len(words)-rnd.below(min(2, len(words)+1))/2]
		checkSlabText(t, "any", impl.Slab{Words: words})
		if impl.SlabText(impl.Slab{Words: words}) != "" {
			shown++
		}
	}
	if shown < count/10 || shown > 9*count/10 || codes < count || outs < count/4 || outs > 3*count/4 {
		t.Error("too few of a kind:", shown, codes, outs)
	}
	for size := range 400 {
		words := make([]int, size%17)
		for i := range words {
			words[i] = []int{rnd.below(64), edgeNumbers()[rnd.below(len(edgeNumbers()))]}[rnd.below(2)]
		}
		checkSlabText(t, "any words", impl.Slab{Words: words})
	}
}

func TestP21GreatShown(t *testing.T) {
	const many = 1000000
	steps := slices.Repeat([]impl.Step{{Op: impl.OpLoad, A: math.MinInt, B: math.MaxInt}, {Op: 99, A: 1}}, many/2)
	checkCodeText(t, "many steps", impl.Code{Steps: steps})
	checkSlabText(t, "many noughts", impl.Slab{Words: make([]int, many)})
	checkUnshown(t, "many blocks", laid(slices.Repeat([]piece{{1, 2, 0}}, many)...))
	checkUnshown(t, "one great block", laid(piece{0, many, 0}))
	checkOutText(t, "many lines", impl.Outcome{Code: impl.OutRoom, Lines: make([]string, many)})
	wide := strings.Repeat("\xff\n", many)
	checkOutText(t, "long lines", impl.Outcome{Code: impl.OutBad, Lines: []string{wide, wide, ""}})
}

// What is handed in, and the room behind it, stays as it was; what was told stays, whatever is done to that.
func TestP21ShownWritesIntoNothing(t *testing.T) {
	rnd := &dice{198}
	slabs := []impl.Slab{{}, {Words: []int{}}, wholeHeap(), laid(piece{1, 1000, 0}, piece{0, 1000, 0})}
	for _, s := range wrongSlabs() {
		slabs = append(slabs, s)
	}
	for range 200 {
		slabs = append(slabs, anyHeap(rnd), anyStore(rnd, 2))
	}
	for _, s := range slabs {
		whole := withRoom(s)
		before := wholeOf(whole)
		text := impl.SlabText(whole)
		if now := wholeOf(whole); !slices.Equal(before, now) {
			t.Fatalf("%v, then %v", before, now)
		}
		spoil(whole)
		if want := wantSlabText(s); text != want || impl.SlabText(s) != want {
			t.Errorf("%q, not %q", text, want)
		}
	}
	for range 600 {
		u := roomyUnit(anyUnit(rnd, 5))
		before := wholeUnit(u)
		var texts, wants []string
		for _, c := range u.Codes {
			wants = append(wants, wantCodeText(c))
			texts = append(texts, impl.CodeText(c))
		}
		if now := wholeUnit(u); now != before {
			t.Fatalf("%s, then %s", before, now)
		}
		spoilUnit(u)
		if !slices.Equal(texts, wants) {
			t.Errorf("%q, not %q", texts, wants)
		}
	}
	for range 1000 {
		o := anyOutcome(rnd)
		lines := slices.Concat(o.Lines, []string{"behind", "further"})
		before := slices.Clone(lines)
		checkOutText(t, "with room behind", impl.Outcome{Code: o.Code, Lines: lines[:len(o.Lines)]})
		if !slices.Equal(before, lines) {
			t.Fatalf("%q, then %q", before, lines)
		}
	}
}

func TestP21ShownByManyAtOnce(t *testing.T) {
	t.Parallel()
	u, _ := impl.Compile(mustParse(t, `let f = function(a) { print a; return {p: a}; }; while (1) { f("x"); }`))
	slabs := []impl.Slab{wholeHeap(), shop(20), laid(slices.Repeat([]piece{{3, 4, 0}}, 500)...), {Words: []int{8}}, {}}
	var all sync.WaitGroup
	for range 12 {
		all.Go(func() {
			for range 50 {
				for _, c := range u.Codes {
					checkCodeText(t, "side by side", c)
				}
				for _, s := range slabs {
					checkSlabText(t, "side by side", s)
				}
				for code := -1; code < 7; code++ {
					checkOutText(t, "side by side", impl.Outcome{Code: code, Lines: oddTexts()})
				}
			}
		})
	}
	all.Wait()
}
