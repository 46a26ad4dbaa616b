package tests

import (
	"math"
	"runtime"
	"slices"
	"strconv"
	"strings"
	"sync"
	"testing"

	"loop.example/g00242/impl"
)

func anyOutcome(rnd *dice) impl.Outcome {
	o := impl.Outcome{Code: []int{0, 1, 2, 3, 4, 5, 6, -1, math.MaxInt, math.MinInt}[rnd.below(10)]}
	if rnd.below(4) == 0 {
		o.Lines = []string{}
	}
	texts := oddTexts()
	for range rnd.below(7) {
		o.Lines = append(o.Lines, texts[rnd.below(3+rnd.below(len(texts)-2))])
	}
	return o
}

// near: an outcome like it, but for little.
func near(rnd *dice, o impl.Outcome) impl.Outcome {
	out := impl.Outcome{Code: o.Code, Lines: slices.Clone(o.Lines)}
	switch rnd.below(5) {
	case 0:
		out.Code += rnd.below(3) - 1
	case 1:
		out.Lines = out.Lines[:rnd.below(len(out.Lines)+1)]
	case 2:
		out.Lines = append(out.Lines, "")
	case 3:
		if len(out.Lines) > 0 {
			out.Lines[rnd.below(len(out.Lines))] += "x"
		}
	}
	return out
}

func TestP21AnyOutcome(t *testing.T) {
	rnd := &dice{185}
	begins, alike, count := 0, 0, 20000
	for range count {
		a, b := anyOutcome(rnd), anyOutcome(rnd)
		if rnd.below(3) > 0 {
			b = near(rnd, a)
		}
		checkPair(t, a, b)
		checkPair(t, b, a)
		if impl.Begins(a, b) {
			begins++
		}
		if impl.Alike(a, b) {
			alike++
		}
	}
	if begins < count/5 || begins > 4*count/5 || alike < count/10 || alike > count/2 {
		t.Error("too few of a kind:", begins, alike)
	}
	const many = 1000000
	long := slices.Repeat([]string{"ab"}, many)
	other := append(slices.Clone(long[1:]), "x")
	checkPair(t, impl.Outcome{Lines: long}, impl.Outcome{Lines: slices.Clone(long)})
	checkPair(t, impl.Outcome{Lines: long}, impl.Outcome{Lines: other})
	checkPair(t, impl.Outcome{Lines: long[1:]}, impl.Outcome{Lines: other})
	checkPair(t, impl.Outcome{Lines: other[:many-1]}, impl.Outcome{Lines: long})
	checkPair(t, impl.Outcome{}, impl.Outcome{Lines: long})
	wide := strings.Repeat("x", many)
	checkPair(t, impl.Outcome{Lines: []string{wide, wide + "x"}}, impl.Outcome{Lines: []string{wide, wide + "y"}})
	if o := impl.Told(impl.Machine{Lines: long}); o.Code != 3 || !slices.Equal(o.Lines, long) {
		t.Error("many lines:", o.Code, len(o.Lines))
	}
}

func TestP21AnyMachineJudged(t *testing.T) {
	t.Parallel()
	rnd := &dice{186}
	met := map[string]int{}
	count := func(what string, phase int, yes bool) { met[what+strconv.Itoa(phase)+strconv.FormatBool(yes)]++ }
	for range 12000 {
		m := anyMachine(rnd, 4)
		checkJudged(t, "any", m)
		if t.Failed() {
			return
		}
		ok, tri := impl.MachineOk(m), impl.TriOk(m.Slab, m.Marker)
		if phase := m.Marker.Phase; phase >= 0 && phase <= 2 {
			count("live", phase, impl.Live(m) > 0)
			count("sound", phase, impl.Sound(m))
			count("ok, tri ", phase, ok && !tri)
			count("tri, ok ", phase, tri && !ok)
		}
		for _, n := range []int{0, 1, 99, 100} {
			next := impl.Gc(m, n)
			if m.Marker.Phase != impl.PhSweep && next.Marker.Phase != impl.PhSweep && impl.Live(m) != impl.Live(next) {
				t.Errorf("behind Gc by %d %d, not %d: %s", n, impl.Live(next), impl.Live(m), machineText(m))
			}
		}
	}
	for _, kind := range []string{"live0true", "live0false", "live1true", "live1false", "live2false", "sound0true", "sound0false", "sound1true", "sound1false", "sound2true", "sound2false", "ok, tri 1true", "tri, ok 0true", "tri, ok 1true", "tri, ok 2true"} {
		if met[kind] < 50 {
			t.Errorf("too few of %s: %v", kind, met)
		}
	}
	if met["live2true"]+met["ok, tri 0true"]+met["ok, tri 2true"] > 0 {
		t.Error(met)
	}
}

func TestP21GreatMachinesJudged(t *testing.T) {
	const many = 200000
	long := make([]int, many)
	base := shopMachine(stepA(impl.OpPrint), 30, impl.VNull)
	for what, turn := range map[string]func(m *impl.Machine){
		"stack": func(m *impl.Machine) { m.Stack = long }, "frames": func(m *impl.Machine) { m.Frames = slices.Repeat(m.Frames, many) }, "slab": func(m *impl.Machine) { m.Slab.Words = long }, "grey": func(m *impl.Machine) { m.Marker = marking(long, nil) }, "black": func(m *impl.Machine) { m.Marker = sweeping(0, long...) },
		"codes": func(m *impl.Machine) { m.Unit.Codes = slices.Repeat(m.Unit.Codes, many) }, "texts": func(m *impl.Machine) { m.Unit.Texts = make([]string, many) }, "steps": func(m *impl.Machine) { m.Unit.Codes[1].Steps = slices.Repeat(m.Unit.Codes[1].Steps, many) },
		"free blocks": func(m *impl.Machine) { m.Slab.Words = heapOf(slices.Repeat([]body{room(2)}, many)...).Words },
	} {
		m := machineClone(base)
		turn(&m)
		if o := impl.Told(m); impl.Live(m) != 0 || impl.Sound(m) || !sameOut(o, impl.Outcome{Code: 3, Lines: []string{"ahead"}}) {
			t.Errorf("%s: %d, %v, %v", what, impl.Live(m), impl.Sound(m), o)
		}
	}
	lines := machineClone(base)
	lines.Lines = make([]string, many)
	if impl.Live(lines) != 18 || !impl.Sound(lines) {
		t.Error("lines")
	}
}

// wantAgree: of any program, by the tests' own reckoning of what is checked and meant.
func wantAgree(n impl.Node, words int, plan []int, steps int) bool {
	if wantCheck(n) != 0 {
		return false
	}
	u, _ := wantCompile(n)
	m, ok := impl.MachineNew(u, words)
	return !ok || wantFits(wantTold(impl.MachineRun(m, plan, steps)), wantPlain(n, 200000))
}

func TestP21AgreeOfAnyTree(t *testing.T) {
	t.Parallel()
	rnd := &dice{187}
	met := map[bool]int{}
	check := func(n impl.Node) {
		t.Helper()
		words, steps := edgeNumbers()[rnd.below(len(edgeNumbers()))], edgeNumbers()[rnd.below(len(edgeNumbers()))]
		if rnd.below(3) > 0 {
			words = 2 + rnd.below(200)
		}
		if rnd.below(2) > 0 {
			steps = rnd.below(300)
		}
		plan := anyPlan(rnd)
		got, want := impl.Agree(n, words, plan, steps), wantAgree(n, words, plan, steps)
		if got != want {
			t.Errorf("%v, %d words, %d steps by %v, of %.500s", got, words, steps, plan, treeText(n))
		}
		met[got]++
	}
	for range 1500 {
		check(anyTree(rnd, 1+rnd.below(6)))
		check(anyNamedTree(rnd, 1+rnd.below(5)))
		n := anyNamedTree(rnd, 1+rnd.below(4))
		n.Op, n.S, n.N = impl.NdBlock, "", 0
		check(n)
	}
	for _, n := range livelyPrograms(188, 500) {
		n = roomy(n)
		all := nodesOf(&n)
		turnOne(rnd, all[rnd.below(len(all))])
		check(n)
	}
	for _, op := range anyOps() {
		for _, s := range append(oddTexts(), "x", "a b", strings.Repeat("x", 1<<16)) {
			check(impl.Node{Op: op, S: s, N: op})
			check(node(impl.NdBlock, nodeOf(op, s, nodeOf(op, s), nodeOf(impl.NdLet, s))))
		}
	}
	check(impl.Node{Op: impl.NdBlock, Kids: []impl.Node{}})
	if met[true] < 100 || met[false] < 1000 {
		t.Error("too few of a kind:", met)
	}
}

// Great trees, deep ones and such as stand within themselves come back, and are false; one list may stand at many places.
func TestP21AgreeOfGreatTrees(t *testing.T) {
	const many = 1000000
	row := make([]impl.Node, 1)
	row[0] = impl.Node{Op: impl.NdWhile, Kids: []impl.Node{numNode(1), {Op: impl.NdBlock, Kids: row}}}
	funs, twice := node(impl.NdBlock), numNode(1)
	for range many / 10 {
		funs = node(impl.NdBlock, node(impl.NdDo, node(impl.NdCall, node(impl.NdFun, funs))))
	}
	for range 300 {
		twice = node(impl.NdAdd, twice, twice)
	}
	for what, n := range map[string]impl.Node{
		"deep": chainOf(many), "deep in a program": node(impl.NdBlock, node(impl.NdDo, chainOf(many))), "wide": node(impl.NdBlock, make([]impl.Node, many)...), "long": node(impl.NdBlock, slices.Repeat([]impl.Node{node(impl.NdPrint, numNode(1))}, many)...),
		"functions": funs, "a ring": {Op: impl.NdBlock, Kids: row}, "each one twice": node(impl.NdBlock, node(impl.NdPrint, twice)), "a long text": node(impl.NdBlock, node(impl.NdPrint, nodeOf(impl.NdText, strings.Repeat("x", many)))),
	} {
		for _, words := range []int{-1, 0, 50, 2001} {
			if impl.Agree(n, words, []int{1}, 50) {
				t.Errorf("%s, %d words: true", what, words)
			}
		}
	}
	shared := mustParse(t, `print a; a = a + 1; print function(b) { print b + a; return function() { b = b + 1; a = a + b; return a; }; }(a)();`).Kids
	block := func() impl.Node { return impl.Node{Op: impl.NdBlock, Kids: shared} }
	n := node(impl.NdBlock, nodeOf(impl.NdLet, "a", numNode(1)), node(impl.NdIf, numNode(1), block(), block()), node(impl.NdDo, node(impl.NdCall, nodeOf(impl.NdFun, "b a", block()), numNode(7), numNode(9))))
	for _, words := range []int{10, 30, 60, 2000} {
		for _, plan := range judgePlans() {
			checkAgrees(t, n, wantPlain(n, 200000), words, plan, 200)
		}
	}
	// as great, and as deep, as may be
	for i, more := range deeper() {
		e := numNode(1)
		for wantDeep(more(e)) <= 18 {
			e = more(e)
		}
		n := node(impl.NdBlock, nodeOf(impl.NdLet, "a", node(impl.NdFun, node(impl.NdBlock))), node(impl.NdPrint, e))
		checkAgrees(t, n, wantPlain(n, 200000), 40+20*(i%9), judgePlans()[i%len(judgePlans())], 400)
	}
	full := filledTree(node(impl.NdPrint, numNode(1)), 200)
	checkAgrees(t, full, wantPlain(full, 200000), 30, nil, 4000)
}

// What is told owns its memory, and nothing is written into what was handed in, nor behind it.
func TestP21WhatIsToldIsNew(t *testing.T) {
	rnd := &dice{189}
	machines := []impl.Machine{{}, {Lines: []string{}}, {Lines: []string{"a"}, Over: true, Code: 7}, shopMachine(stepA(impl.OpPop), 30, impl.VNull)}
	for range 600 {
		machines = append(machines, anyMachine(rnd, 5))
	}
	for i, m := range machines {
		whole := roomyMachine(m)
		if i%2 == 0 {
			whole = m
		}
		before := wholeMachine(whole)
		first, second := impl.Told(whole), impl.Told(whole)
		want := impl.Outcome{Code: first.Code, Lines: slices.Clone(first.Lines)}
		for j := range first.Lines[:cap(first.Lines)] {
			first.Lines[:cap(first.Lines)][j] = "spoilt"
		}
		impl.Live(whole)
		impl.Sound(whole)
		if now := wholeMachine(whole); now != before {
			t.Fatalf("it was written into: %s, not %s", now, before)
		}
		if third := impl.Told(whole); !sameOut(second, want) || !sameOut(third, want) {
			t.Errorf("%v and %v, not %v", second, third, want)
		}
		if i%2 == 1 {
			spoilLists(t, "handed in", whole)
			if !sameOut(second, want) {
				t.Errorf("what was told is turned: %v, not %v", second, want)
			}
		}
	}
	for range 2000 {
		a, b := anyOutcome(rnd), anyOutcome(rnd)
		both := []impl.Outcome{a, near(rnd, a), b}
		for i := range both {
			both[i].Lines = append(slices.Clone(both[i].Lines), "behind", "further")[:len(both[i].Lines)]
		}
		whole := func() string {
			out := ""
			for _, o := range both {
				out += strconv.Itoa(o.Code) + " " + strconv.Itoa(len(o.Lines)) + strconv.Quote(strings.Join(o.Lines[:cap(o.Lines)], "|"))
			}
			return out
		}
		before := whole()
		for _, x := range both {
			for _, y := range both {
				impl.Begins(x, y)
				impl.Alike(x, y)
			}
		}
		if now := whole(); now != before {
			t.Fatalf("%s, not %s", now, before)
		}
	}
}

func TestP21AgreeWritesIntoNothing(t *testing.T) {
	t.Parallel()
	rnd := &dice{190}
	trees := slices.Concat(livelyPrograms(191, 60), compiledPrograms(t))
	for range 100 {
		trees = append(trees, anyNamedTree(rnd, 5), anyTree(rnd, 4))
	}
	for _, n := range trees {
		n = roomy(n)
		before := wholeText(n)
		plan := append([]int{1, 0, 5, 100}, -77, -77)
		for _, steps := range []int{0, 30, 200} {
			first := impl.Agree(n, 150, plan[:4], steps)
			if second := impl.Agree(n, 150, plan[:4], steps); first != second || !slices.Equal(plan, []int{1, 0, 5, 100, -77, -77}) {
				t.Errorf("%v and %v by %v, of %s", first, second, plan, before)
			}
		}
		if now := wholeText(n); now != before {
			t.Fatalf("%s, then %s", before, now)
		}
	}
}

// Nothing goes on when it has answered, whoever of the two takes longer.
func TestP21NoJudgeGoesOn(t *testing.T) {
	before := runtime.NumGoroutine()
	for _, src := range []string{"", "print 1;", "while (1) { print 1; }", "let l = null; while (1) { l = {l: l}; }", "let f = function() { return f(); }; f();", "print q;", "1.p;"} {
		n := mustParse(t, src)
		for _, words := range []int{0, 2, 20, 300} {
			for _, steps := range []int{0, 10, 400} {
				impl.Agree(n, words, []int{1, 0, 100}, steps)
			}
		}
	}
	wantNoMore(t, before)
}

func TestP21JudgedByManyAtOnce(t *testing.T) {
	t.Parallel()
	programs := append(livelyPrograms(192, 15), mustParse(t, stackSource("", 50)), mustParse(t, "while (1) { print 1; }"), impl.Node{})
	machines := phasesOf(shopMachine(stepA(impl.OpPop), 30, ref(impl.VObj, shopChild)))
	var wants []bool
	for _, n := range programs {
		wants = append(wants, wantAgree(n, 250, []int{1, 0, 7}, 4000))
	}
	if !slices.Equal(wants[len(wants)-3:], []bool{false, true, false}) {
		t.Error(wants)
	}
	var all sync.WaitGroup
	for range 12 {
		all.Go(func() {
			for i, n := range programs {
				if got := impl.Agree(n, 250, []int{1, 0, 7}, 4000); got != wants[i] {
					t.Errorf("%d: %v", i, got)
				}
			}
			for _, m := range machines {
				checkJudged(t, "side by side", m)
			}
			checkPair(t, impl.Outcome{Lines: oddTexts()}, impl.Outcome{Lines: oddTexts()})
		})
	}
	all.Wait()
}
