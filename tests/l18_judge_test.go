package tests

import (
	"fmt"
	"math"
	"slices"
	"strconv"
	"strings"
	"testing"

	"loop.example/g00242/impl"
)

func wantTold(m impl.Machine) impl.Outcome {
	if !m.Over {
		return impl.Outcome{Code: 3, Lines: m.Lines}
	}
	return impl.Outcome{Code: m.Code, Lines: m.Lines}
}

func wantBegins(a, b impl.Outcome) bool {
	for i, line := range a.Lines {
		if i >= len(b.Lines) || b.Lines[i] != line {
			return false
		}
	}
	return true
}

func wantAlike(a, b impl.Outcome) bool {
	return a.Code == b.Code && wantBegins(a, b) && wantBegins(b, a)
}

// wantFits: what the machine told, held against what is meant.
func wantFits(machine, plain impl.Outcome) bool {
	switch machine.Code {
	case 0, 1, 2:
		return wantAlike(machine, plain)
	case 3, 4:
		return wantBegins(machine, plain)
	}
	return false
}

func wantLive(m impl.Machine) int {
	if !wantMachineOk(m) || m.Marker.Phase == impl.PhSweep {
		return 0
	}
	g, live := sightOf(m.Slab), 0
	for _, at := range g.met(wantRoots(m)) {
		live += g.sizes[slices.Index(g.places, at)]
	}
	return live
}

func wantSound(m impl.Machine) bool { return wantMachineOk(m) && wantTriOk(m.Slab, m.Marker) }

// checkJudged holds what is told of one machine against the tests' own reckoning.
func checkJudged(t *testing.T, what string, m impl.Machine) {
	t.Helper()
	if got, want := impl.Told(m), wantTold(m); !sameOut(got, want) {
		t.Errorf("%s: Told is %d %.300q, not %d %.300q", what, got.Code, got.Lines, want.Code, want.Lines)
	}
	if got, want := impl.Live(m), wantLive(m); got != want {
		t.Errorf("%s: Live is %d, not %d, of %s", what, got, want, machineText(m))
	}
	if got, want := impl.Sound(m), wantSound(m); got != want {
		t.Errorf("%s: Sound is %v, not %v, of %s", what, got, want, machineText(m))
	}
}

func checkPair(t *testing.T, a, b impl.Outcome) {
	t.Helper()
	if got, want := impl.Begins(a, b), wantBegins(a, b); got != want {
		t.Errorf("Begins is %v of %d %.200q and %d %.200q", got, a.Code, a.Lines, b.Code, b.Lines)
	}
	if got, want := impl.Alike(a, b), wantAlike(a, b); got != want {
		t.Errorf("Alike is %v of %d %.200q and %d %.200q", got, a.Code, a.Lines, b.Code, b.Lines)
	}
}

// checkAgree: of a right program, of which that is meant, what Agree tells is what the tests reckon of what a machine told. This is told.
func checkAgree(t *testing.T, n impl.Node, plain impl.Outcome, words int, plan []int, steps int) impl.Outcome {
	t.Helper()
	u, code := impl.Compile(n)
	m, ok := impl.MachineNew(u, words)
	if code != 0 || !ok {
		t.Fatalf("%d words: %d %v of %s", words, code, ok, treeText(n))
	}
	m = impl.MachineRun(m, plan, steps)
	told := wantTold(m)
	want := wantFits(told, plain)
	if got := impl.Agree(n, words, plan, steps); got != want {
		t.Errorf("Agree is %v, %d words, %d steps by %v: %d %.300q, meant %d %.300q, of %s", got, words, steps, plan, told.Code, told.Lines, plain.Code, plain.Lines, treeText(n))
	}
	if got := impl.Told(m); !sameOut(got, told) {
		t.Errorf("Told is %d %.300q, of %d %.300q", got.Code, got.Lines, told.Code, told.Lines)
	}
	if !impl.Sound(m) {
		t.Errorf("not sound: %s, %d words, %d steps by %v, of %s", machineText(m), words, steps, plan, treeText(n))
	}
	return told
}

// checkAgrees: they agree, as promise 18 has it.
func checkAgrees(t *testing.T, n impl.Node, plain impl.Outcome, words int, plan []int, steps int) impl.Outcome {
	t.Helper()
	told := checkAgree(t, n, plain, words, plan, steps)
	if !wantFits(told, plain) {
		t.Errorf("no agreement, %d words, %d steps by %v: %d %.300q, meant %d %.300q, of %s", words, steps, plan, told.Code, told.Lines, plain.Code, plain.Lines, treeText(n))
	}
	return told
}

// leastWords: what the first scope needs.
func leastWords(n impl.Node) int { return 2 + len(wantVars(n)) }

func TestP18ToldByHand(t *testing.T) {
	long := strings.Repeat("x", 100000)
	for _, lines := range [][]string{nil, {}, {""}, {"a"}, {"a", "", "b"}, {long, "\xff\n", long}, make([]string, 5000), oddTexts()} {
		for _, code := range []int{0, 1, 2, 3, 4, 5, 6, -1, 100, math.MaxInt, math.MinInt} {
			for _, m := range []impl.Machine{{}, shopMachine(stepA(impl.OpPop), 30, impl.VNull), {Slab: impl.Slab{Words: []int{-1}}, Stack: []int{8}, Marker: impl.Marker{Phase: 7}}} {
				m.Code, m.Lines, m.Over = code, lines, true
				if o := impl.Told(m); o.Code != code || !slices.Equal(o.Lines, lines) {
					t.Errorf("over with %d: %d %.100q", code, o.Code, o.Lines)
				}
				m.Over = false
				if o := impl.Told(m); o.Code != impl.OutFuel || !slices.Equal(o.Lines, lines) {
					t.Errorf("not over, %d: %d %.100q", code, o.Code, o.Lines)
				}
				checkJudged(t, "not over", m)
			}
		}
	}
	m := machineOf(t, mustParse(t, "print 1; print 2; 1.p;"), 30)
	for steps, want := range []impl.Outcome{{Code: 3}, {Code: 3}, {Code: 3, Lines: []string{"1"}}, {Code: 3, Lines: []string{"1"}}, {Code: 3, Lines: []string{"1", "2"}}, {Code: 3, Lines: []string{"1", "2"}}, {Code: 1, Lines: []string{"1", "2"}}, {Code: 1, Lines: []string{"1", "2"}}} {
		if o := impl.Told(impl.MachineRun(m, nil, steps)); !sameOut(o, want) {
			t.Errorf("%d steps: %v, not %v", steps, o, want)
		}
	}
}

func TestP18BeginsAndAlikeByHand(t *testing.T) {
	type row struct {
		a, b          []string
		begins, alike bool
	}
	for _, x := range []row{
		{nil, nil, true, true}, {nil, []string{}, true, true}, {[]string{}, nil, true, true}, {nil, []string{""}, true, false}, {[]string{""}, nil, false, false}, {nil, []string{"a", "b"}, true, false}, {[]string{"a", "b"}, nil, false, false},
		{[]string{"a"}, []string{"a"}, true, true}, {[]string{"a"}, []string{"b"}, false, false}, {[]string{"a"}, []string{"a", "b"}, true, false}, {[]string{"a", "b"}, []string{"a"}, false, false}, {[]string{"b"}, []string{"a", "b"}, false, false},
		{[]string{"a", "b", "c"}, []string{"a", "b", "c"}, true, true}, {[]string{"x", "b", "c"}, []string{"a", "b", "c"}, false, false}, {[]string{"a", "x", "c"}, []string{"a", "b", "c"}, false, false}, {[]string{"a", "b", "x"}, []string{"a", "b", "c"}, false, false},
		{[]string{"a", "x"}, []string{"a", "b", "c"}, false, false}, {[]string{"x"}, []string{"a", "b", "c"}, false, false}, {[]string{"a", "b"}, []string{"a", "b", "c"}, true, false}, {[]string{"a", "b", "c", ""}, []string{"a", "b", "c"}, false, false}, {[]string{"a", "b", "c"}, []string{"a", "b", "c", ""}, true, false},
		{[]string{"ab"}, []string{"a", "b"}, false, false}, {[]string{"a"}, []string{"ab"}, false, false}, {[]string{"a\nb"}, []string{"a", "b"}, false, false}, {[]string{"a", "b"}, []string{"a\nb"}, false, false}, {[]string{"a", "a"}, []string{"a"}, false, false}, {[]string{"1"}, []string{"01"}, false, false},
	} {
		codes := []int{0, 1, 2, 3, 4, 5, 6, -1, 3 + 1<<32, math.MaxInt, math.MinInt}
		for _, c := range codes {
			for _, d := range codes {
				a, b := impl.Outcome{Code: c, Lines: x.a}, impl.Outcome{Code: d, Lines: x.b}
				if got := impl.Begins(a, b); got != x.begins {
					t.Errorf("Begins is %v of %v, %v", got, a, b)
				}
				if got := impl.Alike(a, b); got != (x.alike && c == d) {
					t.Errorf("Alike is %v of %v, %v", got, a, b)
				}
			}
		}
	}
}

// All lists of up to four lines of two kinds, each with each; and long ones that part at any line.
func TestP18EachTwoLists(t *testing.T) {
	var all []impl.Outcome
	for count := range 5 {
		for bits := range 1 << count {
			o := impl.Outcome{Code: bits % 2}
			for i := range count {
				o.Lines = append(o.Lines, []string{"", "b"}[bits>>i&1])
			}
			all = append(all, o)
		}
	}
	for _, a := range all {
		for _, b := range all {
			checkPair(t, a, b)
		}
	}
	const many = 300
	lines := make([]string, many)
	for i := range lines {
		lines[i] = strconv.Itoa(i)
	}
	one := impl.Outcome{Lines: lines}
	for i := range many {
		other := impl.Outcome{Lines: slices.Clone(lines)}
		other.Lines[i] += "x"
		short := impl.Outcome{Lines: lines[:i]}
		if impl.Begins(one, other) || impl.Begins(other, one) || impl.Alike(one, other) || !impl.Begins(short, one) || !impl.Begins(short, other) || impl.Begins(one, short) || impl.Alike(one, short) || impl.Alike(short, one) {
			t.Error("parted at", i)
		}
		for _, count := range []int{i, i + 1} {
			other.Lines = other.Lines[:count]
			checkPair(t, other, one)
			checkPair(t, one, other)
		}
	}
}

// judgeSources: programs of every kind.
func judgeSources() []string {
	out := machineSources()
	out = append(out,
		"let add = function(a) { return function(b) { return function(c) { return function() { return a + b * c; }; }; }; }; print add(1)(2)(3)(); let f = add(4); let i = 0; while (i < 4) { print f(i)(i)(); f = add(i); i = i + 1; }",
		"let f = function(n) { let g = function(m) { let h = function() { n = n + m; return n; }; return h() + h(); }; return g(1) + g(10); }; print f(1); print f(2); print f(f(0));",
		"let twice = function(f) { return function(x) { return f(f(x)); }; }; print twice(twice(function(x) { return x + 3; }))(1); print twice(twice)(function(x) { return x * 2; })(1);",
		"let even = null; let odd = function(n) { if (n == 0) { return false; } return even(n - 1); }; even = function(n) { if (n == 0) { return true; } return odd(n - 1); }; print even(10); print odd(10); print even(28); print odd(29); print even(30);",
		`let a = {n: "a"}; let b = {n: "b"}; a.o = b; b.o = a; a.proto = b; b.proto = a; print a.o.o.n; print a.none; b.x = a; print a.x.x.n; a = b.proto; b = null; print a.o.proto == a; a = null; let i = 0; while (i < 9) { let c = {i: i}; c.c = c; c.proto = c; i = i + 1; print c.c.c.proto.i; }`,
		"let i = 0; let r = null; while (i < 7) { let x = {i: i}; let y = {x: x}; x.y = y; x.proto = y; y.proto = x; if (i == 3) { r = x; } i = i + 1; } print r.i; print r.y.x.i; print r.y.i; print r.proto.proto == r; r.proto.proto = null; print r.y.i; print r.none;",
		`let s = ""; let i = 0; while (i < 12) { let j = 0; s = ""; while (j < i) { s = s + "z"; j = j + 1; } print s; i = i + 1; } print s == "zzzzzzzzzzz"; let o = {}; o.k = s + "k"; print o.k; s = "q" + s; print o.k == s;`,
		`let t = "a"; while (1) { print t; t = t + t; }`, `let t = "a"; let l = {}; while (1) { l = {t: t, l: l}; t = t + "b"; print t; }`,
		`let i = 0; while (i < 3) { let j = 0; while (j < 3) { let k = 0; while (k < 2) { print i * 100 + j * 10 + k; k = k + 1; } j = j + 1; } i = i + 1; } while (0) { print "no"; } while ("") { print "no"; }`,
		"let f = function(n) { let o = {n: n, f: f}; print o.n; o.f(n + 1); print 0; }; f(1);", "let g = null; let f = function() { return g(); }; g = function() { print {}; return {a: f(), b: 1}; }; print 1; f(); print 2;",
		"let f = function(n) { if (n == 0) { return 0; } let o = {n: n}; let k = f(n - 1); return k + o.n; }; let i = 0; while (i < 40) { print f(i); i = i + 7; }",
		"let o = {m: function(s, v) { s.v = v; return s; }, v: 1}; print o.m(o, 5).v; print o.m({}, 6).v; print o.v; let p = {}; p.proto = o; p.m(p, 7); print p.v; print o.v; p.proto = null; print p.m;",
		"let i = 2147483647; print i + 1; print i * i; print 0 - i - 2; let x = 0; while (!(x == 5)) { x = x + 1; if (x == 3) { return x; } print x; } print 9;",
	)
	for _, fault := range []string{"1.p;", "print k.none.x;", "1.p = 2;", "null.proto = null;", "k.proto = 1;", "k.proto = \"a\";", "k.proto = undefined;", "k.proto = print1;", "null();", "k(1, k);", "k.p();", "\"f\"();", "1 + null;", "\"a\" + 1;", "k + k;", "1 - \"a\";", "\"a\" * \"b\";", "null < 1;", "\"a\" < \"b\";", "true - false;",
		"{a: 1.p};", "print1(1, {}.x.y);", "return null();", "let z = \"1234567890123456\" + \"123456789012345\";", "k.p = undefined.q;", "deep(0);", "print1(deep(0), 1.p);", "while (1) { deep(i); }"} {
		out = append(out, `let deep = function(n) { return deep({n: n}); }; let print1 = function(v) { print v; return v; }; let i = 0; let k = null; while (i < 6) { k = {k: k, t: "a" + "b"}; print1(i); if (i == 3) { `+fault+` } i = i + 1; } print "end";`)
	}
	return out
}

func judgePlans() [][]int {
	return [][]int{nil, {}, {0}, {-1}, {math.MinInt}, {1}, {2, 3}, {99}, {100}, {101, 0}, {math.MaxInt}, {1, 0, 100, -5, 50, 3}, {0, 0, 0, 0, 0, 0, 99, 99, 99}, {1, 1, 1, 1, 1, 1, 1, 1, 1, 1, 1, 1, 1, 1, 1, 100}, {math.MaxInt, math.MinInt, 1, 98, 7}}
}

// Whatever the plan, machine and meaning agree: programs of every kind, with many sizes and many numbers of steps. By plans that all have room the same is told with the same steps.
func TestP18WhateverThePlan(t *testing.T) {
	t.Parallel()
	rnd := &dice{180}
	codes := [6]int{}
	for i, src := range judgeSources() {
		n := mustParse(t, src)
		plain := wantPlain(n, 200000)
		for j, steps := range []int{1, 30, 120, 400, 1500, 4000} {
			least := leastWords(n)
			for _, words := range []int{least, least + 2 + rnd.below(10), 30 + rnd.below(40), 70 + rnd.below(60), 150 + rnd.below(100), 2000} {
				var with []impl.Outcome
				for k, plan := range append(judgePlans(), anyPlan(rnd)) {
					if (i+j+k+words)%6 > 0 || words == 2000 && steps > 400 && (i+j+k)%12 > 0 {
						continue
					}
					told := checkAgrees(t, n, plain, words, plan, steps)
					codes[told.Code]++
					if told.Code != impl.OutRoom {
						with = append(with, told)
					}
				}
				for _, told := range with {
					if !impl.Alike(told, with[0]) {
						t.Errorf("%s: with %d words, %d steps: %v and %v", src, words, steps, told, with[0])
					}
				}
			}
		}
	}
	if codes[0] < 300 || codes[1] < 300 || codes[2] < 30 || codes[3] < 1000 || codes[4] < 500 || codes[5] > 0 {
		t.Error("too few of a kind:", codes)
	}
}

func TestP18LivelyPrograms(t *testing.T) {
	t.Parallel()
	rnd := &dice{181}
	codes := [6]int{}
	for _, n := range slices.Concat(livelyPrograms(182, 250), compiledPrograms(t)) {
		plain := wantPlain(n, 200000)
		for range 6 {
			words := []int{leastWords(n) + 2 + rnd.below(90), 100 + rnd.below(200), 2000 - rnd.below(50)}[rnd.below(3)]
			steps := []int{rnd.below(20), rnd.below(200), 1000, 4000}[rnd.below(4)]
			codes[checkAgrees(t, n, plain, words, anyPlan(rnd), steps).Code]++
		}
	}
	if codes[0] < 100 || codes[1] < 100 || codes[2] < 5 || codes[3] < 300 || codes[4] < 200 || codes[5] > 0 {
		t.Error("too few of a kind:", codes)
	}
}

// Step by step by every plan the machine is sound, and what it told so far begins what is meant.
func TestP18SoundStepByStep(t *testing.T) {
	t.Parallel()
	phases := [3]int{}
	for i, src := range judgeSources() {
		n := mustParse(t, src)
		plain := impl.Plain(n, 200000)
		for j, plan := range judgePlans() {
			if (i+j)%5 > 0 {
				continue
			}
			m := machineOf(t, n, 50+10*((i+3*j)%9))
			for at := 0; at < 160 && !m.Over; at++ {
				turned := m
				if len(plan) > 0 {
					turned = impl.Gc(m, plan[at%len(plan)])
				}
				next := impl.MachineStep(turned)
				if !impl.Sound(m) || !impl.Sound(turned) || !impl.Sound(next) {
					t.Fatalf("%s by %v, step %d: %s, %s, %s", src, plan, at, machineText(m), machineText(turned), machineText(next))
				}
				if at%8 == 0 && (!wantSound(turned) || !wantSound(next)) {
					t.Fatalf("%s by %v, step %d: not sound: %s", src, plan, at, machineText(next))
				}
				if told := impl.Told(next); !impl.Begins(told, plain) || !impl.Begins(impl.Told(m), told) || next.Over && told.Code < 3 && !impl.Alike(told, plain) {
					t.Fatalf("%s by %v, step %d: %v, meant %v", src, plan, at, told, plain)
				}
				phases[turned.Marker.Phase]++
				m = next
			}
		}
	}
	if phases[0] < 1000 || phases[1] < 1000 || phases[2] < 1000 {
		t.Error("too few of a phase:", phases)
	}
}

// With more steps as much is told, or more.
func TestP18MoreSteps(t *testing.T) {
	t.Parallel()
	for i, src := range judgeSources() {
		n := mustParse(t, src)
		plain := impl.Plain(n, 200000)
		plan, words := judgePlans()[i%len(judgePlans())], 60+10*(i%10)
		last := impl.Outcome{Code: impl.OutFuel}
		for steps := -1; steps < 100; steps += 1 + steps/20 {
			told := checkAgrees(t, n, plain, words, plan, steps)
			if !impl.Begins(last, told) || last.Code != impl.OutFuel && !impl.Alike(last, told) {
				t.Errorf("%s by %v, %d words: %v, then %v", src, plan, words, last, told)
			}
			last = told
		}
	}
}

// ones: so many numbers with commas between.
func ones(count int) string { return strings.TrimSuffix(strings.Repeat("1,", count), ",") }

// stackSource: 29 calls, each of which keeps 50 values on the stack ahead of the next one; within the thirtieth a function and so many more are put. No more than 30 calls may be there, so that what is meant is OutCalls.
func stackSource(ahead string, count int) string {
	return "let g = function() { }; let f = function(n) { if (n == 0) { g(" + ones(count) + "); } g(" + ones(49) + ", f(n - 1)); }; print 1; " + ahead + " f(29); print 2;"
}

// A machine whose stack is full ended with OutBad, which is none of the codes that may be: then they don't agree, though what it told begins what is meant. With 1500 values just met they do.
func TestP18StackIsOut(t *testing.T) {
	t.Parallel()
	for count, want := range map[int]int{1: 2, 48: 2, 49: 2, 50: 5, 51: 5, 60: 5} {
		n := mustParse(t, stackSource("", count))
		plain := wantPlain(n, 200000)
		if plain.Code != impl.OutCalls || !slices.Equal(plain.Lines, []string{"1"}) || !sameOut(impl.Plain(n, 200000), plain) {
			t.Errorf("%d: meant %v", count, plain)
		}
		for _, plan := range [][]int{nil, {1}, {100, 0, 0, 0}, {99, 5}} {
			told := checkAgree(t, n, plain, 300, plan, 4000)
			if told.Code != want || !slices.Equal(told.Lines, []string{"1"}) {
				t.Errorf("%d by %v: %v", count, plan, told)
			}
			if got := impl.Agree(n, 300, plan, 4000); got != (want == 2) {
				t.Errorf("%d by %v: Agree is %v", count, plan, got)
			}
		}
	}
}

// stepsToEnd: how many steps are done until it is over.
func stepsToEnd(t *testing.T, n impl.Node, words int) (int, impl.Machine) {
	t.Helper()
	m, total := machineOf(t, n, words), 0
	for !m.Over {
		m = impl.MachineStep(m)
		if total++; total > 20000 {
			t.Fatal("no end:", treeText(n))
		}
	}
	return total, m
}

// padded: a program that is over behind just so many steps.
func padded(t *testing.T, source func(ahead string) string, words, want int) impl.Node {
	t.Helper()
	loop := "let i = 0; while (i < 0) { i = i + 1; } "
	least, _ := stepsToEnd(t, mustParse(t, source(loop)), words)
	rounds := (want - least - 3) / 9
	left := want - least - 9*rounds
	ahead := strings.Replace(loop, "< 0", "< "+strconv.Itoa(rounds), 1)
	if left%2 == 1 {
		ahead, left = ahead+"!1; ", left-3
	}
	n := mustParse(t, source(ahead+strings.Repeat("1; ", left/2)))
	if total, _ := stepsToEnd(t, n, words); total != want {
		t.Fatalf("%d steps, not %d", total, want)
	}
	return n
}

// Steps below 0, 0, 1, as many as are needed and one less, MaxSteps and above: they tell by what is false as soon as it is over.
func TestP18HowManySteps(t *testing.T) {
	t.Parallel()
	bad := func(ahead string) string { return stackSource(ahead, 50) }
	for _, need := range []int{2500, 3999, 4000, 4001, 4002, 4500} {
		n := padded(t, bad, 300, need)
		for _, steps := range []int{math.MinInt, math.MinInt + 1, -4001, -1, 0, 1, 2, need - 2, need - 1, need, need + 1, 3999, 4000, 4001, 1 << 32, math.MaxInt - 1, math.MaxInt} {
			for _, plan := range [][]int{nil, {0, 0, 0, 0, 0, 0, 0, 0, 0, 0, 0, 0, 0, 0, 0, 0, 0, 0, 0, 0, 0, 0, 0, 0, 0, 0, 0, 0, 0, 0, 1}} {
				if got, want := impl.Agree(n, 300, plan, steps), min(steps, 4000) < need; got != want {
					t.Errorf("%d steps of %d by %v: %v", steps, need, plan, got)
				}
			}
		}
	}
	// what ends well ends so, and with one step less it is out of steps: both are as they should be
	good := func(ahead string) string { return "print 1; " + ahead + "print 2;" }
	for _, need := range []int{50, 3999, 4000, 4001} {
		n := padded(t, good, 30, need)
		plain := wantPlain(n, 200000)
		for _, steps := range []int{math.MinInt, -1, 0, 1, need - 1, need, need + 1, 4000, 4001, math.MaxInt} {
			told := checkAgrees(t, n, plain, 30, nil, steps)
			if ended := min(steps, 4000) >= need; ended != sameOut(told, impl.Outcome{Lines: []string{"1", "2"}}) || !ended && told.Code != 3 {
				t.Errorf("%d steps of %d: %v", steps, need, told)
			}
		}
	}
}

// Sizes that are none, or too small for the first scope, are true whatever the program does; one that is met just so is not.
func TestP18HowManyWords(t *testing.T) {
	n := mustParse(t, stackSource("", 50))
	least := leastWords(n)
	for _, words := range []int{math.MinInt, -1, 0, 1, 2, least - 1, least, least + 1, 20, 100, 300, 1999, 2000, 2001, 4000, math.MaxInt} {
		room := words >= least && words <= 2000
		for _, steps := range []int{-1, 0, 1, 4000} {
			want := !room || steps < 4000 || words <= 20
			if got := impl.Agree(n, words, nil, steps); got != want {
				t.Errorf("%d words, %d steps: %v", words, steps, got)
			}
		}
	}
	for vars := range 13 {
		n := mustParse(t, manyLets("x", vars)+" print 1; print {};")
		plain := wantPlain(n, 200000)
		for words := vars + 2; words < vars+12; words++ {
			told := checkAgrees(t, n, plain, words, nil, 4000)
			if want := map[bool]int{true: 0, false: 4}[words >= vars+5]; told.Code != want || len(told.Lines) < 1 {
				t.Errorf("%d vars, %d words: %v", vars, words, told)
			}
		}
	}
}

// What is not NmDone is false, whatever the size and the steps: where there would be no machine, too.
func TestP18AgreeOfWhatIsNotChecked(t *testing.T) {
	trees := map[string]impl.Node{"zero": {}, "a number": numNode(1), "a statement": node(impl.NdPrint, numNode(1)), "too great": filledTree(node(impl.NdPrint, numNode(1)), 201), "an N": {Op: impl.NdBlock, N: 1}, "a block in a block": node(impl.NdBlock, node(impl.NdBlock))}
	for src, want := range map[string]int{"let x = 1; let x = 2;": impl.NmTwice, "function(a, a) { };": impl.NmTwice, manyLets("x", 13): impl.NmMany, strings.Repeat("function(){};", 40): impl.NmMany, "print q;": impl.NmNone, "print 1; return 2; q = 1;": impl.NmNone, "function() { print q; };": impl.NmNone} {
		trees[src] = mustParse(t, src)
		checkCode(t, src, trees[src], want)
	}
	for what, n := range trees {
		for _, words := range []int{math.MinInt, -1, 0, 1, 2, 14, 100, 2000, 2001, math.MaxInt} {
			for _, steps := range []int{math.MinInt, -1, 0, 1, 100, 4000, math.MaxInt} {
				for _, plan := range [][]int{nil, {1}, {100}} {
					if impl.Agree(n, words, plan, steps) {
						t.Errorf("%s: true, %d words, %d steps by %v", what, words, steps, plan)
					}
				}
			}
		}
	}
	for _, words := range []int{math.MinInt, -1, 0, 1, 2001, math.MaxInt} {
		if !impl.Agree(node(impl.NdBlock), words, nil, 1) {
			t.Errorf("the empty program, %d words: false", words)
		}
	}
}

// Who ran out, each by itself and two at once: the machine, by the words and steps that it has, and the meaning of its fuel.
func TestP18WhoRanOut(t *testing.T) {
	t.Parallel()
	const (
		ends   = "let i = 0; while (i < 20) { let o = {i: i}; i = i + 1; } print o.i; print 1;"
		keeps  = "let l = null; let i = 0; while (i < 20) { l = {i: i, l: l}; print i; i = i + 1; }"
		never  = "print 1; while (1) { let o = {p: 1}; print 2; }"
		hoards = "let l = null; while (1) { l = {l: l}; print 1; }"
		long   = "let n = 0; while (n < 30000) { n = n + 1; } print n;"
		deep   = "print 1; let f = function(n) { return f(n + 1); }; f(0);"
		hard   = "print 1; let f = function(n) { let o = {n: n}; f(n + 1); }; f(0);"
		slow   = "let f = function(n) { let i = 0; while (i < 9) { i = i + 1; } print n; return f(n + 1); }; f(0);"
	)
	for what, x := range map[string]struct {
		src                 string
		words, steps        int
		machine, plain, out int
	}{
		"none": {ends, 60, 4000, 0, 0, 2}, "steps": {ends, 60, 100, 3, 0, 0}, "room": {keeps, 60, 4000, 4, 0, 1}, "no room at all": {ends, 4, 4000, 4, 0, 0}, "room and steps": {keeps, 60, 60, 3, 0, 1},
		"calls": {deep, 200, 4000, 2, 2, 1}, "calls, steps": {deep, 200, 90, 3, 2, 1}, "calls, room": {deep, 40, 4000, 4, 2, 1}, "calls, steps, room": {hard, 70, 30, 3, 2, 1}, "calls, objects": {hard, 500, 4000, 2, 2, 1}, "calls that take long": {slow, 200, 4000, 2, 2, 30}, "calls, not yet": {slow, 200, 1000, 3, 2, 10},
		"fuel, steps": {never, 60, 4000, 3, 3, 300}, "fuel, few steps": {never, 60, 9, 3, 3, 1}, "fuel, no steps": {never, 60, 0, 3, 3, 0}, "fuel, room": {hoards, 60, 4000, 4, 3, 7}, "fuel, room, steps": {hoards, 60, 40, 3, 3, 3}, "fuel, all room": {hoards, 2000, 4000, 4, 3, 280},
		"more fuel than there is": {long, 30, 4000, 3, 3, 0}, "more fuel, and steps": {long, 30, 100, 3, 3, 0}, "more fuel, no room": {"let l = {}; " + long, 6, 4000, 4, 3, 0},
	} {
		n := mustParse(t, x.src)
		plain := wantPlain(n, 200000)
		if got := impl.Plain(n, 200000); plain.Code != x.plain || !sameOut(got, plain) {
			t.Errorf("%s: meant %d", what, got.Code)
		}
		for _, plan := range [][]int{nil, {1}, {0, 100}, {3, -7, 99}, {math.MaxInt, math.MinInt}} {
			told := checkAgrees(t, n, plain, x.words, plan, x.steps)
			if told.Code != x.machine || len(told.Lines) < x.out {
				t.Errorf("%s by %v: %d, %d lines", what, plan, told.Code, len(told.Lines))
			}
		}
	}
}

// What is meant has 200000 of fuel, and not fewer: programs that end within MaxSteps take more than one for each step.
func TestP18FuelForAllSteps(t *testing.T) {
	src := "let i = 0; let t = 1; while (i < 72) { " + strings.Repeat("if (t) { } ", 23) + "i = i + 1; } print i;"
	n := mustParse(t, src)
	run := runPlain(n, 200000)
	total, m := stepsToEnd(t, n, 30)
	if total < 3900 || total > 4000 || len(run.takes) < 5500 || !sameOut(impl.Told(m), impl.Outcome{Lines: []string{"72"}}) {
		t.Errorf("%d steps, %d of fuel: %v", total, len(run.takes), impl.Told(m))
	}
	for _, plan := range judgePlans()[:9] {
		if told := checkAgrees(t, n, run.with(200000), 30, plan, total); told.Code != 0 {
			t.Errorf("by %v: %v", plan, told)
		}
	}
}

// Plans with any numbers, the ends of int among them, and great ones.
func TestP18AnyPlan(t *testing.T) {
	t.Parallel()
	n := mustParse(t, judgeSources()[4])
	plain := wantPlain(n, 200000)
	for _, one := range edgeNumbers() {
		if told := checkAgrees(t, n, plain, 90, []int{one}, 400); told.Code != 0 {
			t.Errorf("%d: %v", one, told)
		}
	}
	if told := checkAgrees(t, n, plain, 90, edgeNumbers(), 400); told.Code != 0 {
		t.Error(told)
	}
	rnd := &dice{183}
	for range 200 {
		var plan []int
		for range rnd.below(12) {
			plan = append(plan, edgeNumbers()[rnd.below(len(edgeNumbers()))])
		}
		checkAgrees(t, n, plain, 70+rnd.below(40), plan, rnd.below(400))
	}
	if told := checkAgrees(t, n, plain, 90, slices.Repeat([]int{5, 0, 100}, 500000), 4000); told.Code != 0 {
		t.Error("a great plan:", told)
	}
}

// Live by hand: how many words each thing has that is on the stack, or in scopes, alone.
func TestP18LiveByHand(t *testing.T) {
	t.Parallel()
	obj, child, fun, far := ref(impl.VObj, shopObj), ref(impl.VObj, shopChild), ref(impl.VFun, shopFun), ref(impl.VFun, shopFar)
	// two scopes of 4 words, a text of 3, an object of 3, a cell of 4
	const scopes = 4 + 4 + 3 + 3 + 4
	for what, x := range map[string]struct {
		stack []int
		want  int
	}{
		"nothing": {nil, scopes}, "no block": {[]int{impl.VUndef, impl.VNull, impl.BoolOf(true), impl.IntOf(-3), impl.IntOf(shopAb)}, scopes}, "what scopes have": {[]int{obj, ref(impl.VText, shopP), ref(impl.VInner, shopYard)}, scopes},
		"a text": {[]int{ref(impl.VText, shopAb)}, scopes + 4}, "the empty text": {[]int{ref(impl.VText, shopNone)}, scopes + 2}, "a long text": {[]int{ref(impl.VText, shopLost)}, scopes + 7}, "an object": {[]int{child}, scopes + 3}, "one that leads to it": {[]int{ref(impl.VObj, shopWaste)}, scopes + 6},
		"a function": {[]int{fun}, scopes + 3}, "two functions": {[]int{far, fun}, scopes + 6}, "one twice": {[]int{child, child, far, child}, scopes + 6}, "all": {[]int{ref(impl.VText, shopAb), ref(impl.VText, shopNone), ref(impl.VText, shopLost), ref(impl.VObj, shopWaste), fun, far}, shopFree},
	} {
		m := shopMachine(stepA(impl.OpPop), 30, x.stack...)
		live(t, what, m, x.want)
		over := machineClone(m)
		over.Over, over.Code = true, 4
		live(t, what+", over", over, x.want)
	}
	// the scopes of frames alone
	m := shopMachine(stepA(impl.OpPop), 30)
	m.Frames = m.Frames[:1]
	live(t, "the outer scope", m, 4+3+4+3)
	m.Slab.Words[shopYard+3] = impl.VNull
	live(t, "a scope alone", m, 4)
	m.Stack = []int{ref(impl.VInner, shopRoom)}
	live(t, "a scope on the stack", m, 4+4+3)
	m.Stack = []int{fun}
	live(t, "a function that has the scope", m, 4+3)
	m.Stack = []int{far}
	live(t, "a function that has the other scope", m, 4+3+4+3)
	// circles of prototypes and of cells
	m = shopMachine(stepA(impl.OpPop), 30)
	m.Slab.Words[shopObj+1] = child
	live(t, "prototypes in a circle", m, scopes+3)
	m.Slab.Words[shopCell+3] = ref(impl.VInner, shopCell)
	live(t, "cells in a circle", m, scopes+3)
	m.Slab.Words[shopCell+2] = obj
	live(t, "an object that has itself", m, scopes+3)
	m.Slab.Words[shopYard+1] = ref(impl.VInner, shopRoom)
	live(t, "scopes in a circle", m, scopes+3)
	// blocks with a word more, and the smallest and the greatest machines
	m = impl.Machine{Unit: shopUnit(stepA(impl.OpPop)), Slab: heapOf(holding(impl.BkScope, 0, ref(impl.VObj, 3)), holding(impl.BkObj, impl.VNull, 0, 0), holding(impl.BkObj, impl.VNull, 0, 0)), Frames: []impl.Frame{{Scope: ref(impl.VInner, 0)}}}
	live(t, "a word more", m, 3+4)
	live(t, "new", machineOf(t, mustParse(t, ""), 2), 2)
	live(t, "new, a word more", machineOf(t, mustParse(t, ""), 3), 3)
	live(t, "new and great", machineOf(t, mustParse(t, "let a = 1; let b = 2;"), 2000), 4)
	m.Slab = heapOf(slices.Repeat([]body{holding(impl.BkScope, ref(impl.VInner, 0))}, 1000)...)
	live(t, "a thousand scopes", m, 2)
	for i := range 1000 {
		m.Slab.Words[2*i+1] = ref(impl.VInner, (2*i+2)%2000)
	}
	if impl.Live(m) != 2000 {
		t.Error("a thousand scopes in a circle:", impl.Live(m))
	}
}

// live: so many words at rest, and marked bit by bit, and tidied; none while it sweeps.
func live(t *testing.T, what string, m impl.Machine, want int) {
	t.Helper()
	phases := phasesOf(m)
	if len(phases) > 400 {
		phases = append(phases[:3], phases[len(phases)-1])
	}
	met := [3]int{}
	for i, at := range phases {
		met[at.Marker.Phase]++
		now := want
		if at.Marker.Phase == impl.PhSweep {
			now = 0
		}
		if got := impl.Live(at); got != now {
			t.Errorf("%s, state %d: %d, not %d, of %s", what, i, got, now, machineText(at))
		}
		checkJudged(t, what, at)
		if at.Marker.Phase != impl.PhSweep {
			if waste := impl.Waste(at.Slab, impl.Roots(at)); want+waste+impl.Room(at.Slab) != len(at.Slab.Words) {
				t.Errorf("%s, state %d: %d, and %d waste, and %d room, of %d words", what, i, want, waste, impl.Room(at.Slab), len(at.Slab.Words))
			}
		}
		for _, n := range []int{math.MinInt, -1, 0, 1, 2, 50, 99, 100, 101, math.MaxInt} {
			next := impl.Gc(at, n)
			then := want
			if next.Marker.Phase == impl.PhSweep {
				then = 0
			}
			if got := impl.Live(next); got != then || !impl.Sound(next) {
				t.Errorf("%s, state %d: behind Gc by %d %d, not %d", what, i, n, got, then)
			}
		}
	}
	if met[0] < 2 || met[1] < 1 {
		t.Errorf("%s: too few states: %v", what, met)
	}
}

// Programs on their way: how much is live, step by step, is the same behind each Gc that does not sweep.
func TestP18LiveOnTheWay(t *testing.T) {
	t.Parallel()
	rnd := &dice{184}
	swept, waste, circles := 0, 0, 0
	for i, src := range judgeSources() {
		m := machineOf(t, mustParse(t, src), 120)
		for range 60 {
			m = impl.MachineRun(m, []int{[]int{0, 0, 1, 1, 3, 20, 100}[rnd.below(7)]}, 1+rnd.below(3))
			n := []int{-1, 0, 1, 2, 7, 99, 100, math.MaxInt}[rnd.below(8)]
			next := impl.Gc(m, n)
			checkJudged(t, src, m)
			checkJudged(t, src, next)
			if m.Marker.Phase == impl.PhSweep || next.Marker.Phase == impl.PhSweep {
				swept++
				continue
			}
			if impl.Live(m) != impl.Live(next) || impl.Live(m) < leastWords(mustParse(t, src)) {
				t.Errorf("%s: %d, behind Gc by %d %d", src, impl.Live(m), n, impl.Live(next))
			}
			if impl.Waste(m.Slab, impl.Roots(m)) > 0 {
				waste++
			}
			if i%9 == 4 {
				circles++
			}
		}
	}
	if swept < 200 || waste < 200 || circles < 20 {
		t.Error("too few:", swept, waste, circles)
	}
}

// Live and Sound of machines that are wrong in one thing each.
func TestP18WrongMachines(t *testing.T) {
	base := shopMachine(stepA(impl.OpPop), 30, ref(impl.VObj, shopChild), impl.IntOf(4))
	for i, m := range phasesOf(base) {
		if !impl.Sound(m) {
			t.Errorf("state %d is not sound", i)
		}
		for what, turn := range map[string]func(m *impl.Machine){
			"many values": func(m *impl.Machine) { m.Stack = make([]int, 1501) }, "no frames": func(m *impl.Machine) { m.Frames = nil }, "many frames": func(m *impl.Machine) { m.Frames = slices.Repeat(m.Frames, 16) },
			"no such code": func(m *impl.Machine) { m.Frames[0].Code = 4 }, "no such step": func(m *impl.Machine) { m.Frames[1].Pc = 3 }, "a scope that is none": func(m *impl.Machine) { m.Frames[0].Scope = ref(impl.VObj, shopObj) }, "a scope that is undefined": func(m *impl.Machine) { m.Frames[1].Scope = impl.VUndef },
			"a code that is none": func(m *impl.Machine) { m.Code = 6 }, "a code below 0": func(m *impl.Machine) { m.Code = -1 }, "no unit": func(m *impl.Machine) { m.Unit = impl.Unit{} }, "a step that is none": func(m *impl.Machine) { m.Unit.Codes[0].Steps[0].Op = 0 },
			"a value that leads nowhere": func(m *impl.Machine) { m.Stack = append(m.Stack, ref(impl.VObj, 1)) }, "a value that is none": func(m *impl.Machine) { m.Stack = append(m.Stack, -8) },
		} {
			other := machineClone(m)
			turn(&other)
			if impl.Live(other) != 0 || impl.Sound(other) || !impl.TriOk(other.Slab, other.Marker) {
				t.Errorf("state %d, %s: %d, %v, TriOk %v", i, what, impl.Live(other), impl.Sound(other), impl.TriOk(other.Slab, other.Marker))
			}
			checkJudged(t, what, other)
		}
		for what, turn := range map[string]func(m *impl.Machine){
			"no phase": func(m *impl.Machine) { m.Marker.Phase = 3 }, "At": func(m *impl.Machine) { m.Marker.At = 1 }, "a free one black": func(m *impl.Machine) { m.Marker.Black = append(m.Marker.Black, shopFree) }, "grey that is none": func(m *impl.Machine) { m.Marker.Grey = append(m.Marker.Grey, 1) },
			"a slab that is none": func(m *impl.Machine) { m.Slab.Words[shopYard] = 0 },
		} {
			other := machineClone(m)
			turn(&other)
			if impl.Live(other) != 0 || impl.Sound(other) || impl.MachineOk(other) || impl.TriOk(other.Slab, other.Marker) {
				t.Errorf("state %d, %s: %d, %v", i, what, impl.Live(other), impl.Sound(other))
			}
			checkJudged(t, what, other)
		}
	}
	if impl.Live(impl.Machine{}) != 0 || impl.Sound(impl.Machine{}) || impl.Told(impl.Machine{}).Code != impl.OutFuel {
		t.Error("zero")
	}
}

// Sound asks for what MachineOk does not: while it marks no black block leads to one that was not met. Live does not ask for it.
func TestP18SoundByHand(t *testing.T) {
	base := shopMachine(stepA(impl.OpPop), 30, ref(impl.VObj, shopChild))
	for what, x := range map[string]struct {
		marker    impl.Marker
		ok, sound bool
	}{
		"at rest": {impl.Marker{}, true, true}, "nothing met": {marking(nil, nil), true, true}, "all grey": {marking([]int{shopChild, shopYard, shopRoom}, nil), true, true}, "a text black": {marking(nil, []int{shopP}), true, true}, "what leads nowhere": {marking(nil, []int{shopNone, shopAb, shopLost}), true, true},
		"the outer scope": {marking(nil, []int{shopYard}), true, false}, "and its object grey": {marking([]int{shopObj}, []int{shopYard}), true, true}, "and its object black": {marking(nil, []int{shopYard, shopObj}), true, false}, "and the cell grey": {marking([]int{shopCell}, []int{shopYard, shopObj}), true, true},
		"the inner scope": {marking([]int{shopP}, []int{shopRoom}), true, false}, "and the outer one grey": {marking([]int{shopP, shopYard}, []int{shopRoom}), true, true}, "a cell": {marking(nil, []int{shopCell}), true, false}, "a function": {marking(nil, []int{shopFun}), true, false}, "a function and its scope": {marking([]int{shopYard}, []int{shopFun}), true, true},
		"an object and its prototype": {marking([]int{shopObj}, []int{shopChild}), true, true}, "one without": {marking(nil, []int{shopChild}), true, false}, "one that nobody reaches": {marking(nil, []int{shopWaste}), true, false}, "and what it leads to": {marking([]int{shopChild}, []int{shopWaste}), true, true},
		"swept": {sweeping(0, shopYard, shopRoom, shopP, shopObj, shopCell, shopChild), true, true}, "swept, a root is not black": {sweeping(0, shopYard, shopRoom, shopP, shopObj, shopCell), false, false}, "swept, a black one leads to one that is not": {sweeping(0, shopYard, shopRoom, shopP, shopObj, shopChild), false, false},
		"swept to the first text": {sweeping(shopNone, shopYard, shopRoom, shopP, shopObj, shopCell, shopChild), true, true}, "swept past one that is not black": {sweeping(shopAb, shopYard, shopRoom, shopP, shopObj, shopCell, shopChild), false, false},
		"black at rest": {impl.Marker{Black: []int{shopP}}, false, false}, "grey at rest": {impl.Marker{Grey: []int{shopP}}, false, false}, "no phase": {impl.Marker{Phase: 3}, false, false},
	} {
		m := machineClone(base)
		m.Marker = x.marker
		if impl.MachineOk(m) != x.ok || impl.Sound(m) != x.sound || impl.TriOk(m.Slab, m.Marker) && !x.sound && x.ok {
			t.Errorf("%s: MachineOk %v, TriOk %v, Sound %v", what, impl.MachineOk(m), impl.TriOk(m.Slab, m.Marker), impl.Sound(m))
		}
		want := 0
		if x.ok && x.marker.Phase != impl.PhSweep {
			want = 4 + 4 + 3 + 3 + 4 + 3
		}
		if got := impl.Live(m); got != want {
			t.Errorf("%s: Live is %d, not %d", what, got, want)
		}
		checkJudged(t, what, m)
	}
	// what is swept and not met may be anything; it is sound all the same
	m := machineClone(base)
	m.Marker = sweeping(0, shopYard, shopRoom, shopP, shopObj, shopCell, shopChild)
	for _, w := range []int{-1, math.MaxInt, ref(impl.VObj, 1999)} {
		m.Slab.Words[shopWaste+1] = w
		if !impl.Sound(m) || impl.Live(m) != 0 {
			t.Errorf("a word that is %d: %v", w, impl.Sound(m))
		}
		checkJudged(t, fmt.Sprint(w), m)
	}
}
