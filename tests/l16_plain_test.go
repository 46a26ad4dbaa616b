package tests

import (
	"math"
	"slices"
	"strconv"
	"strings"
	"sync"
	"testing"

	"loop.example/g00242/impl"
)

// plainVal: a value as the tests reckon it; two are alike where == says so.
type plainVal struct {
	kind string
	n    int
	s    string
	o    *plainObj
	f    *plainFun
}

type plainObj struct {
	proto *plainObj
	has   map[string]plainVal
}

type plainFun struct {
	r     *routine
	about *plainEnv
}

type plainEnv struct {
	about *plainEnv
	has   map[string]plainVal
}

// act: one thing that is done with a stack of values. The tests' own runner goes over rows of acts, with frames of its own, where the program goes over trees.
type act struct {
	does string
	s    string
	n    int
	r    *routine
}

type routine struct {
	names, vars []string
	acts        []act
}

func routineOf(n impl.Node) *routine {
	r := &routine{vars: wantVars(n)}
	if n.Op == impl.NdFun {
		r.names = strings.Fields(n.S)
		n = n.Kids[0]
	}
	r.lay(n)
	r.add("undefined")
	r.add("return")
	return r
}

func (r *routine) add(does string) int {
	r.acts = append(r.acts, act{does: does})
	return len(r.acts) - 1
}

// lay: each node is first of all taken from what fuel there is, then what is in it is done, then itself.
func (r *routine) lay(n impl.Node) {
	r.add("take")
	switch n.Op {
	case impl.NdIf, impl.NdWhile:
		r.layBranch(n)
		return
	case impl.NdFun:
		r.acts = append(r.acts, act{does: "function", r: routineOf(n)})
		return
	case impl.NdObj:
		r.add("object")
	}
	for _, kid := range n.Kids {
		r.lay(kid)
	}
	if n.Op == impl.NdBlock || n.Op == impl.NdObj {
		return
	}
	at := r.add(map[int]string{
		impl.NdLet: "set", impl.NdSet: "set", impl.NdPut: "put", impl.NdReturn: "return", impl.NdPrint: "print", impl.NdDo: "drop", impl.NdNum: "number", impl.NdText: "text",
		impl.NdTrue: "true", impl.NdFalse: "false", impl.NdNull: "null", impl.NdUndef: "undefined", impl.NdName: "name", impl.NdGet: "get", impl.NdCall: "call",
		impl.NdAdd: "+", impl.NdSub: "-", impl.NdMul: "*", impl.NdLess: "<", impl.NdSame: "==", impl.NdNot: "!", impl.NdPair: "field",
	}[n.Op])
	r.acts[at].s, r.acts[at].n = n.S, n.N
	if n.Op == impl.NdCall {
		r.acts[at].n = len(n.Kids) - 1
	}
}

func (r *routine) layBranch(n impl.Node) {
	begin := len(r.acts)
	r.lay(n.Kids[0])
	no := r.add("unless")
	r.lay(n.Kids[1])
	if n.Op == impl.NdWhile {
		r.acts[r.add("go")].n = begin
	} else {
		behind := r.add("go")
		defer func() { r.acts[behind].n = len(r.acts) }()
	}
	r.acts[no].n = len(r.acts)
	if len(n.Kids) == 3 {
		r.lay(n.Kids[2])
	}
}

type plainFrame struct {
	r   *routine
	at  int
	env *plainEnv
}

// plainRun: takes has for each node that was done how many lines were printed ahead of it.
type plainRun struct {
	frames []plainFrame
	stack  []plainVal
	lines  []string
	takes  []int
	code   int
	over   bool
}

func (p *plainRun) end(code int) { p.code, p.over = code, true }

func (p *plainRun) push(v plainVal) { p.stack = append(p.stack, v) }

func (p *plainRun) pop() plainVal {
	v := p.stack[len(p.stack)-1]
	p.stack = p.stack[:len(p.stack)-1]
	return v
}

func wordVal(word string) plainVal { return plainVal{kind: word} }

func boolVal(yes bool) plainVal { return wordVal(strconv.FormatBool(yes)) }

func (v plainVal) text() string {
	switch v.kind {
	case "number":
		return strconv.Itoa(v.n)
	case "text":
		return v.s
	}
	return v.kind
}

func (v plainVal) no() bool {
	return slices.Contains([]plainVal{wordVal("undefined"), wordVal("null"), wordVal("false"), {kind: "number"}, {kind: "text"}}, v)
}

func (p *plainRun) enter(r *routine, about *plainEnv, with []plainVal) {
	env := &plainEnv{about: about, has: map[string]plainVal{}}
	for _, name := range r.vars {
		env.has[name] = wordVal("undefined")
	}
	for i, name := range r.names {
		if i < len(with) {
			env.has[name] = with[i]
		}
	}
	p.frames = append(p.frames, plainFrame{r: r, env: env})
}

func (e *plainEnv) with(name string) *plainEnv {
	for ; ; e = e.about {
		if _, has := e.has[name]; has {
			return e
		}
	}
}

func (o *plainObj) find(name string) plainVal {
	met := map[*plainObj]bool{}
	for ; o != nil && !met[o]; o = o.proto {
		if v, has := o.has[name]; has {
			return v
		}
		met[o] = true
	}
	return wordVal("undefined")
}

// round: a number as 32 bits have it, by adding and taking away.
func round(n int) int {
	const all = 1 << 32
	n %= all
	if n > 1<<31-1 {
		n -= all
	}
	if n < -(1 << 31) {
		n += all
	}
	return n
}

func (p *plainRun) two(sign string, a, b plainVal) {
	numbers := a.kind == "number" && b.kind == "number"
	switch {
	case sign == "==":
		p.push(boolVal(a == b))
	case numbers && sign == "<":
		p.push(boolVal(a.n < b.n))
	case numbers:
		p.push(plainVal{kind: "number", n: round(map[string]int{"+": a.n + b.n, "-": a.n - b.n, "*": a.n * b.n}[sign])})
	case sign == "+" && a.kind == "text" && b.kind == "text" && len(a.s+b.s) <= 30:
		p.push(plainVal{kind: "text", s: a.s + b.s})
	default:
		p.end(1)
	}
}

func (p *plainRun) put(into plainVal, name string, v plainVal) {
	switch {
	case into.kind != "object", name == "proto" && v.kind != "object" && v.kind != "null":
		p.end(1)
	case name == "proto":
		into.o.proto = v.o
	default:
		into.o.has[name] = v
	}
}

func (p *plainRun) get(from plainVal, name string) {
	switch {
	case from.kind != "object":
		p.end(1)
	case name != "proto":
		p.push(from.o.find(name))
	case from.o.proto == nil:
		p.push(wordVal("null"))
	default:
		p.push(plainVal{kind: "object", o: from.o.proto})
	}
}

func (p *plainRun) call(count int) {
	with := slices.Clone(p.stack[len(p.stack)-count:])
	p.stack = p.stack[:len(p.stack)-count]
	switch f := p.pop(); {
	case f.kind != "function":
		p.end(1)
	case len(p.frames) > 30:
		p.end(2)
	default:
		p.enter(f.f.r, f.f.about, with)
	}
}

func (p *plainRun) step(most int) {
	frame := &p.frames[len(p.frames)-1]
	a := frame.r.acts[frame.at]
	frame.at++
	switch a.does {
	case "take":
		if len(p.takes) == most {
			p.end(3)
			return
		}
		p.takes = append(p.takes, len(p.lines))
	case "set":
		frame.env.with(a.s).has[a.s] = p.pop()
	case "name":
		p.push(frame.env.with(a.s).has[a.s])
	case "put":
		v := p.pop()
		p.put(p.pop(), a.s, v)
	case "field":
		v := p.pop()
		p.put(p.stack[len(p.stack)-1], a.s, v)
	case "get":
		p.get(p.pop(), a.s)
	case "call":
		p.call(a.n)
	case "return":
		p.frames = p.frames[:len(p.frames)-1]
		if len(p.frames) == 0 {
			p.end(0)
		}
	case "print":
		p.lines = append(p.lines, p.pop().text())
	case "drop":
		p.pop()
	case "go":
		frame.at = a.n
	case "unless":
		if p.pop().no() {
			frame.at = a.n
		}
	case "!":
		p.push(boolVal(p.pop().no()))
	case "+", "-", "*", "<", "==":
		b := p.pop()
		p.two(a.does, p.pop(), b)
	case "object":
		p.push(plainVal{kind: "object", o: &plainObj{has: map[string]plainVal{}}})
	case "function":
		p.push(plainVal{kind: "function", f: &plainFun{r: a.r, about: frame.env}})
	default:
		p.push(plainVal{kind: a.does, n: a.n, s: a.s})
	}
}

// runPlain: a program that is right, with at most so much fuel.
func runPlain(n impl.Node, most int) *plainRun {
	p := &plainRun{}
	p.enter(routineOf(n), nil, nil)
	for !p.over {
		p.step(most)
	}
	return p
}

// with: how it would have ended with so much fuel, where it was run with more.
func (p *plainRun) with(fuel int) impl.Outcome {
	if fuel = max(fuel, 0); fuel < len(p.takes) {
		return impl.Outcome{Code: 3, Lines: p.lines[:p.takes[fuel]]}
	}
	return impl.Outcome{Code: p.code, Lines: p.lines}
}

func wantPlain(n impl.Node, fuel int) impl.Outcome {
	if wantCheck(n) != 0 {
		return impl.Outcome{Code: 5}
	}
	return runPlain(n, min(max(fuel, 0), 200000)).with(fuel)
}

func sameOut(a, b impl.Outcome) bool { return a.Code == b.Code && slices.Equal(a.Lines, b.Lines) }

func checkPlain(t *testing.T, n impl.Node, fuel int) impl.Outcome {
	t.Helper()
	got, want := impl.Plain(n, fuel), wantPlain(n, fuel)
	if !sameOut(got, want) {
		t.Errorf("%.500s with %d: %d %.500q, want %d %.500q", treeText(n), fuel, got.Code, got.Lines, want.Code, want.Lines)
	}
	return got
}

// begins: promise 16, of one who has less fuel and one who has more.
func begins(less, more impl.Outcome) bool {
	if less.Code != 3 {
		return sameOut(less, more)
	}
	return len(less.Lines) <= len(more.Lines) && slices.Equal(less.Lines, more.Lines[:len(less.Lines)])
}

// checkFuels: a right program with every fuel from below 0 up to more than it needs, or up to most: each outcome is as the tests reckon it, and promise 16 holds. How it ends is told.
func checkFuels(t *testing.T, n impl.Node, most int) *plainRun {
	t.Helper()
	if code := wantCheck(n); code != 0 {
		t.Fatalf("%.500s: Check %d", treeText(n), code)
	}
	run := runPlain(n, most)
	last := impl.Outcome{Code: 3}
	for fuel := -2; fuel <= min(len(run.takes)+3, most); fuel++ {
		got := impl.Plain(n, fuel)
		if want := run.with(fuel); !sameOut(got, want) {
			t.Errorf("%.500s with %d: %d %q, want %d %q", treeText(n), fuel, got.Code, got.Lines, want.Code, want.Lines)
			return run
		}
		if !begins(last, got) {
			t.Errorf("%.500s with %d: %d %q, with one less %d %q", treeText(n), fuel, got.Code, got.Lines, last.Code, last.Lines)
			return run
		}
		last = got
	}
	if all := impl.Plain(n, 200000); !begins(last, all) || run.code != 3 && !sameOut(last, all) {
		t.Errorf("%.500s with all: %d %.500q, with less %d %.500q", treeText(n), all.Code, all.Lines, last.Code, last.Lines)
	}
	return run
}

// checkEnds: a program that is said by hand, with every fuel as well.
func checkEnds(t *testing.T, src string, code int, lines ...string) {
	t.Helper()
	n := mustParse(t, src)
	got := impl.Plain(n, 200000)
	if !sameOut(got, impl.Outcome{Code: code, Lines: lines}) {
		t.Errorf("%s\n%d %q, want %d %q", src, got.Code, got.Lines, code, lines)
	}
	checkFuels(t, n, 1000)
}

// checkPrints: it ends well.
func checkPrints(t *testing.T, src string, lines ...string) {
	t.Helper()
	checkEnds(t, src, 0, lines...)
}

func TestP16Constants(t *testing.T) {
	if impl.MaxCalls != 30 || impl.OutEnd != 0 || impl.OutType != 1 || impl.OutCalls != 2 || impl.OutFuel != 3 || impl.OutRoom != 4 || impl.OutBad != 5 {
		t.Error("constants")
	}
}

func checkNothingDone(t *testing.T, what string, n impl.Node) {
	t.Helper()
	checkNothingWith(t, what, n, math.MinInt, -1, 0, 1, 2, 3, 100, 200000, 200001, math.MaxInt)
}

func checkNothingWith(t *testing.T, what string, n impl.Node, fuels ...int) {
	t.Helper()
	for _, fuel := range fuels {
		if o := impl.Plain(n, fuel); o.Code != 5 || len(o.Lines) > 0 || impl.Lines(o) != "" {
			t.Errorf("%.300s with %d: %d %q", what, fuel, o.Code, o.Lines)
		}
	}
}

// What is not NmDone is not done at all, with what fuel so ever: not what stands ahead of what is wrong either.
func TestP16Bad(t *testing.T) {
	bad := map[int][]string{
		impl.NmTwice: {"print 1; let x = 1; let x = 2;", "print 1; print function(a, a) { };", "function(a) { let a = 1; }; print 2;", "print 1; return 2; if (0) { let x = 1; } else { let x = 2; }"},
		impl.NmMany:  {"print 1;" + manyLets("x", 13), "print function(" + manyNames("a", 13) + ") { };", "print 1;" + strings.Repeat("function(){};", 40), "print 1; return 2; function() {" + manyLets("x", 13) + "};"},
		impl.NmNone:  {"print 1; q;", "print 1; q = 2;", "print q;", "print 1; return 2; print q;", "print 1; if (0) { q; }", "print 1; while (0) { q = 1; }", "print function() { return q; };", "function(a) { }; print a;"},
	}
	for code, list := range bad {
		for _, src := range list {
			n := mustParse(t, src)
			checkCode(t, src, n, code)
			checkNothingDone(t, src, n)
		}
	}
	one := node(impl.NdPrint, numNode(1))
	for what, n := range map[string]impl.Node{
		"zero": {}, "a function": node(impl.NdFun, node(impl.NdBlock)), "a number": numNode(1), "a statement": one, "an S": nodeOf(impl.NdBlock, "x", one), "an N": {Op: impl.NdBlock, N: 1, Kids: []impl.Node{one}},
		"an expr": node(impl.NdBlock, one, numNode(1)), "a block in a block": node(impl.NdBlock, one, node(impl.NdBlock)), "a pair": node(impl.NdBlock, one, nodeOf(impl.NdPair, "x", numNode(1))),
		"no kid": node(impl.NdBlock, one, node(impl.NdPrint)), "two kids": node(impl.NdBlock, one, node(impl.NdPrint, numNode(1), numNode(2))), "no op": node(impl.NdBlock, one, impl.Node{Op: 28}),
		"too great": filledTree(one, 201), "a number too great": node(impl.NdBlock, one, node(impl.NdDo, numNode(2147483648))), "a number too small": node(impl.NdBlock, one, node(impl.NdDo, numNode(-2147483648))),
		"a text too long": node(impl.NdBlock, one, node(impl.NdDo, nodeOf(impl.NdText, strings.Repeat("x", 31)))), "a wrong text": node(impl.NdBlock, one, node(impl.NdDo, nodeOf(impl.NdText, "\n"))),
		"a pair of proto": node(impl.NdBlock, one, node(impl.NdDo, node(impl.NdObj, nodeOf(impl.NdPair, "proto", node(impl.NdNull))))),
		"a let of proto":  node(impl.NdBlock, one, nodeOf(impl.NdLet, "proto", numNode(1))),
	} {
		checkCode(t, what, n, impl.NmBad)
		checkNothingDone(t, what, n)
	}
	for slot := range faultSlots() {
		for _, code := range []int{2, 3, 4} {
			src := "print 1;" + faultProgram(map[string]string{slot: fault(code, slot, 0)})
			checkNothingDone(t, src, mustParse(t, src))
		}
	}
}

// How much is needed, by hand: with just that much it ends so, with one less there is none left.
func TestP16FuelByHand(t *testing.T) {
	type needs struct {
		src  string
		fuel int
		code int
	}
	for _, one := range []needs{
		{"", 1, 0},
		// statements
		{"1;", 3, 0}, {"print 1;", 3, 0}, {"return 1;", 3, 0}, {"let x = 1;", 3, 0}, {"let x = 1; x = 2;", 5, 0}, {"let o = {}; o.p = 1;", 6, 0}, {"{}.p = 1;", 4, 0}, {"{}.proto = null;", 4, 0}, {"{}.proto = {};", 4, 0},
		{"1; 2; 3;", 7, 0}, {"return 1; 2; print 3;", 3, 0}, {"1; return 2; 3;", 5, 0},
		{"if (1) { }", 4, 0}, {"if (0) { }", 3, 0}, {"if (1) { 2; 3; }", 8, 0}, {"if (0) { 2; 3; }", 3, 0}, {"if (1) { } else { 2; }", 4, 0}, {"if (0) { 2; } else { }", 4, 0}, {"if (0) { } else { 2; }", 6, 0}, {"if (1) { 2; } else { 3; 4; }", 6, 0},
		{"if (1) { if (0) { } else { if (1) { } } }", 10, 0}, {"if (1) { return 2; } 3;", 6, 0},
		{"while (0) { }", 3, 0}, {"while (0) { 1; }", 3, 0}, {"while (1) { return 2; }", 6, 0}, {"let i = 0; while (i < 2) { i = i + 1; }", 23, 0}, {"let x = 1; while (x) { x = 0; }", 9, 0}, {"let x = 1; while (x) { x = 0; 5; } 6;", 13, 0},
		// exprs
		{"\"a\";", 3, 0}, {"true; false; null; undefined;", 9, 0}, {"let x = 1; x;", 5, 0}, {"{}.p;", 4, 0}, {"{}.proto;", 4, 0}, {"{}.proto == null;", 6, 0},
		{"1 + 2;", 5, 0}, {"1 - 2;", 5, 0}, {"1 * 2;", 5, 0}, {"1 < 2;", 5, 0}, {"1 == 2;", 5, 0}, {"1 + 2 * 3;", 7, 0}, {"\"a\" + \"b\";", 5, 0}, {"!1;", 4, 0}, {"!!1;", 5, 0}, {"-1;", 3, 0}, {"(((1)));", 3, 0},
		{"{};", 3, 0}, {"{a: 1};", 5, 0}, {"{a: 1, b: 2};", 7, 0}, {"{a: 1, a: 2};", 7, 0}, {"{a: {b: 1}};", 7, 0}, {"{a: 1}.a;", 6, 0}, {"let p = {a: 1}; let q = {}; q.proto = p; q.a;", 13, 0},
		{"function() { };", 3, 0}, {"function() { 1; 2; };", 3, 0}, {"function(a, b) { return a; };", 3, 0},
		{"function() { }();", 5, 0}, {"function() { 1; }();", 7, 0}, {"function() { return 1; 2; }();", 7, 0}, {"function(a) { }(1);", 6, 0}, {"function() { }(1, 2, 3);", 8, 0}, {"function(a, b) { return a; }(1, 2, 3);", 10, 0}, {"function(a, b, c) { }();", 5, 0},
		{"let f = function() { }; f(); f();", 11, 0}, {"let f = function() { return function() { }; }; f()();", 11, 0}, {"{f: function() { }}.f();", 8, 0}, {"let f = function(x) { return x; }; f(f(f(1)));", 20, 0},
		// what can't go on needs all that is ahead of it, itself, and what is in it
		{"1.p;", 4, 1}, {"1.proto;", 4, 1}, {"1.p = 2;", 4, 1}, {"1.proto = null;", 4, 1}, {"{}.proto = 1;", 4, 1}, {"1();", 4, 1}, {"1(2, 3);", 6, 1}, {"1 + null;", 5, 1}, {"1 - null;", 5, 1}, {"null * 1;", 5, 1}, {"\"a\" < \"b\";", 5, 1},
		{"2; 1.p; 3;", 6, 1}, {"if (1.p) { }", 4, 1}, {"while (1.p) { }", 4, 1}, {"return 1.p;", 4, 1}, {"print 1.p;", 4, 1}, {"let x = 1.p;", 4, 1}, {"{a: 1, b: 2.p, c: 3};", 8, 1}, {"function() { 1.p; 2; }();", 8, 1}, {"1.p(2)(3);", 6, 1}, {"1(2.p);", 6, 1},
		{"let f = function() { return f(); }; f();", 6 + 30*4, 2}, {"let f = function() { f(); 1; }; f();", 6 + 30*4, 2}, {"let f = function(n) { return f(n); }; f(1);", 7 + 30*5, 2},
	} {
		n := mustParse(t, one.src)
		for fuel, want := range map[int]int{one.fuel: one.code, one.fuel + 1: one.code, one.fuel - 1: 3, 0: 3, -1: 3, 200000: one.code} {
			if got := impl.Plain(n, fuel).Code; got != want {
				t.Errorf("%q with %d: %d, want %d", one.src, fuel, got, want)
			}
		}
		if run := checkFuels(t, n, 1000); len(run.takes) != one.fuel {
			t.Errorf("%q: the reckoning has %d, want %d", one.src, len(run.takes), one.fuel)
		}
	}
}

// Where nothing is done twice or left out, as much is needed as there are nodes.
func TestP16FuelIsSize(t *testing.T) {
	for _, e := range []string{"1", "\"a\"", "true", "{}", "{a: 1, b: {c: 2, c: 3}}", "!{}.q", "{}.proto", "1 + 2 - 3 * 4", "1 < 2", "{} == {}", "!(1 == 1)", "{a: {b: {c: {}}}}.a.b.c"} {
		for _, form := range []string{"E;", "print E;", "let x = E;", "x = E; let x = E;", "return E;", "{}.p = E;", "{p: E}.q = E;", "print E; E; print E;", "if (1) { print E; }", "if (!1) { } else { E; }", "print function(x) { return E; }(E);"} {
			n := mustParse(t, strings.ReplaceAll(form, "E", e))
			need := wantSize(n)
			if strings.Contains(form, "else") {
				need--
			}
			if impl.Plain(n, need).Code != 0 || impl.Plain(n, need-1).Code != 3 {
				t.Errorf("%s needs not %d: %+v %+v", treeText(n), need, impl.Plain(n, need), impl.Plain(n, need-1))
			}
		}
	}
}

// Which lines are told with each fuel from 0 on, by hand.
func TestP16LinesByFuel(t *testing.T) {
	for src, want := range map[string]string{
		"print 1; print 2; print 3;":                                                  "000" + "11" + "22" + "3",
		"print 1; return 2;":                                                          "000" + "11" + "1",
		"print 1 + 2; 4; print 5;":                                                    "00000" + "1111" + "2",
		"if (print1) { print 1; } let print1 = 1; print 2;":                           "0000000" + "1",
		"let i = 0; while (i < 2) { print i; i = i + 1; } print 9;":                   "0000000000" + "1111111111" + "22222222" + "2" + "3",
		"let f = function(x) { print x; return x; }; f(1) + f(2); print 3;":           "00000000000" + "11111111" + "2222" + "3",
		"let f = function(x) { print x; return x; }; {a: f(1), b: f(2)}; print f(3);": "000000000000" + "111111111" + "222222222" + "33" + "4",
		"print 1; {}.p.q; print 2;":                                                   "000" + "1111" + "1",
		"let f = function(n) { print n; f(n + 1); }; f(1);":                           "0000000000" + "111111111" + "222222222" + "333333333" + "444444444" + "5",
	} {
		n := mustParse(t, src)
		for fuel, digit := range want {
			if got := len(impl.Plain(n, fuel).Lines); got != int(digit-'0') {
				t.Errorf("%q with %d: %d lines, want %c", src, fuel, got, digit)
			}
		}
		checkFuels(t, n, 1000)
	}
}

// 200000 are the most: who is handed more has no more.
func TestP16MostFuel(t *testing.T) {
	// 7 nodes and 8 for each of 24998 rounds are 199991
	loop := "let i = 0; while (i < 24998) { i = i + 1; }"
	for end, need := range map[string]int{"": 199991, "1; 2; 3; !4;": 200000, "1; 2; 3; 4; 5;": 200001, "1; 2; 3; 4; !5;": 200002, "1; 2; 3; print !4;": 200000, "1; 2; print 3; print 4; print 5;": 200001, "1; 2; 3; (4).p;": 200000, "1; 2; 3; !(4).p;": 200001} {
		n := mustParse(t, loop+end)
		run := runPlain(n, 300000)
		if len(run.takes) != need {
			t.Fatalf("%q: %d, want %d", end, len(run.takes), need)
		}
		want := run.with(200000)
		if need > 200000 != (want.Code == 3) {
			t.Errorf("%q: %d", end, want.Code)
		}
		for _, fuel := range []int{200000, 200001, 200002, 300000, 1 << 31, 1 << 32, 1<<32 + 1, math.MaxInt - 1, math.MaxInt} {
			if got := impl.Plain(n, fuel); !sameOut(got, want) {
				t.Errorf("%q with %d: %d %q, want %d %q", end, fuel, got.Code, got.Lines, want.Code, want.Lines)
			}
		}
		for _, fuel := range []int{199990, 199991, 199998, 199999} {
			if got, want := impl.Plain(n, fuel), run.with(fuel); !sameOut(got, want) {
				t.Errorf("%q with %d: %d %q, want %d %q", end, fuel, got.Code, got.Lines, want.Code, want.Lines)
			}
		}
	}
	spin := mustParse(t, "while (true) { print 1; }")
	// 2 nodes, then 4 for each round: behind the last line nothing is left
	if o := impl.Plain(spin, math.MaxInt); o.Code != 3 || len(o.Lines) != 49999 {
		t.Error(o.Code, len(o.Lines))
	}
	for _, fuel := range []int{0, -1, -2, -200000, -(1 << 32), -(1 << 32) + 5, math.MinInt, math.MinInt + 1} {
		for _, src := range []string{"", "print 1;", "1.p;", "while (1) { print 2; }"} {
			if o := impl.Plain(mustParse(t, src), fuel); o.Code != 3 || len(o.Lines) > 0 {
				t.Errorf("%q with %d: %d %q", src, fuel, o.Code, o.Lines)
			}
		}
	}
}

// plainKind: an expr, what it prints, and whether it is no.
type plainKind struct {
	src, kind, line string
	no              bool
}

func plainKinds() []plainKind {
	return []plainKind{
		{"undefined", "undefined", "undefined", true}, {"null", "null", "null", true}, {"true", "true", "true", false}, {"false", "false", "false", true},
		{"0", "number", "0", true}, {"-0", "number", "0", true}, {"1", "number", "1", false}, {"-1", "number", "-1", false}, {"2147483647", "number", "2147483647", false}, {"-2147483647", "number", "-2147483647", false},
		{"(-2147483647 - 1)", "number", "-2147483648", false}, {"(65536 * 65536)", "number", "0", true},
		{`""`, "text", "", true}, {`" "`, "text", " ", false}, {`"0"`, "text", "0", false}, {`"false"`, "text", "false", false}, {`"undefined"`, "text", "undefined", false}, {`("" + "")`, "text", "", true},
		{`"object"`, "text", "object", false}, {`"~ !#$%&'()*+,-./:;<=>?@[\]^_"`, "text", `~ !#$%&'()*+,-./:;<=>?@[\]^_`, false},
		{"{}", "object", "object", false}, {"{a: 0}", "object", "object", false}, {"function() { }", "function", "function", false}, {"function(a) { return 0; }", "function", "function", false},
	}
}

func TestP16YesAndNo(t *testing.T) {
	for _, k := range plainKinds() {
		yes, no := "yes", "no"
		if k.no {
			yes, no = no, yes
		}
		checkPrints(t, "print "+k.src+";", k.line)
		checkPrints(t, "if ("+k.src+") { print \"yes\"; } else { print \"no\"; }", yes)
		checkPrints(t, "if ("+k.src+") { print \"yes\"; } print 1;", strings.Fields(strings.Replace(yes, "no", "", 1)+" 1")...)
		checkPrints(t, "if (!"+k.src+") { print \"yes\"; } else { print \"no\"; }", no)
		checkPrints(t, "print !"+k.src+"; print !!"+k.src+";", strconv.FormatBool(k.no), strconv.FormatBool(!k.no))
		checkPrints(t, "let x = "+k.src+"; while (x) { print 1; x = 0; } print 2;", strings.Fields(map[bool]string{true: "2", false: "1 2"}[k.no])...)
		checkPrints(t, "let x = "+k.src+"; print x; let o = {p: x}; print o.p; o.p = 1; print x; print function(y) { return y; }(x);", k.line, k.line, k.line, k.line)
	}
}

// Each two values with each sign.
func TestP16Signs(t *testing.T) {
	for _, a := range plainKinds() {
		for _, b := range plainKinds() {
			numbers, texts := a.kind == "number" && b.kind == "number", a.kind == "text" && b.kind == "text"
			n, _ := strconv.Atoi(a.line)
			m, _ := strconv.Atoi(b.line)
			what := func(sign string) string { return "print 7; print " + a.src + " " + sign + " " + b.src + "; print 8;" }
			for sign, want := range map[string]string{
				"+": strconv.Itoa(int(int32(n) + int32(m))), "-": strconv.Itoa(int(int32(n) - int32(m))), "*": strconv.Itoa(int(int32(n) * int32(m))), "<": strconv.FormatBool(n < m),
			} {
				switch {
				case numbers:
					checkPrints(t, what(sign), "7", want, "8")
				case texts && sign == "+" && len(a.line+b.line) <= 30:
					checkPrints(t, what(sign), "7", a.line+b.line, "8")
				default:
					checkEnds(t, what(sign), 1, "7")
				}
			}
			alike := a.kind == b.kind && a.line == b.line && a.kind != "object" && a.kind != "function"
			checkPrints(t, what("=="), "7", strconv.FormatBool(alike), "8")
			checkPrints(t, "let a = "+a.src+"; let b = "+b.src+"; let c = b; print a == b; print b == c; print a == a;", strconv.FormatBool(alike), "true", "true")
		}
	}
}

func TestP16NumbersGoRound(t *testing.T) {
	for src, want := range map[string]string{
		"2147483647 + 1": "-2147483648", "2147483647 + 2": "-2147483647", "2147483647 + 0": "2147483647", "2147483646 + 1": "2147483647", "2147483647 + 2147483647": "-2", "1073741824 + 1073741824": "-2147483648", "1073741824 + 1073741823": "2147483647",
		"-2147483647 + -1": "-2147483648", "-2147483647 + -2": "2147483647", "-2147483647 + -2147483647": "2", "-2147483647 - 1 + -1": "2147483647", "-1 + 1": "0",
		"-2147483647 - 1": "-2147483648", "-2147483647 - 2": "2147483647", "-2147483647 - 3": "2147483646", "0 - 2147483647 - 1": "-2147483648", "2147483647 - -1": "-2147483648", "2147483647 - -2147483647": "-2", "0 - (-2147483647 - 1)": "-2147483648",
		"(-2147483647 - 1) - (-2147483647 - 1)": "0", "1 - (-2147483647 - 1)": "-2147483647", "-1 - (-2147483647 - 1)": "2147483647",
		"65536 * 65536": "0", "65536 * 32768": "-2147483648", "65536 * 32767": "2147418112", "46341 * 46341": "-2147479015", "46340 * 46340": "2147395600", "2147483647 * 2": "-2", "2147483647 * 3": "2147483645", "2147483647 * 2147483647": "1",
		"2147483647 * -2147483647": "-1", "-2147483647 * -2147483647": "1", "(-2147483647 - 1) * -1": "-2147483648", "(-2147483647 - 1) * 2": "0", "(-2147483647 - 1) * (-2147483647 - 1)": "0", "(-2147483647 - 1) * 2147483647": "-2147483648",
		"-46341 * 46341": "2147479015", "-65536 * 32768": "-2147483648", "-3 * 5": "-15", "-3 * -5": "15", "0 * -5": "0", "2147483647 * 2147483647 * 2147483647": "2147483647",
		"2147483647 + 1 < 0": "true", "2147483647 < 2147483647 + 1": "false", "-2147483647 - 1 < -2147483647": "true", "2147483647 + 1 == -2147483647 - 1": "true", "1 < 1": "false", "-1 < 0": "true", "0 < -1": "false", "65536 * 65536 == 0": "true",
	} {
		checkPrints(t, "print "+src+";", want)
	}
	rnd := &dice{161}
	for range 3000 {
		number := func() int {
			edges := []int{0, 1, -1, 2147483647, -2147483647, 46341, 65536, -65536, 1 << 30}
			if rnd.below(2) == 0 {
				return rnd.below(1<<31) - rnd.below(1<<31)
			}
			return edges[rnd.below(len(edges))]
		}
		a, b, c := number(), number(), number()
		n := node(impl.NdBlock)
		for _, op := range []int{impl.NdAdd, impl.NdSub, impl.NdMul, impl.NdLess} {
			n.Kids = append(n.Kids, node(impl.NdPrint, node(op, node(impl.NdSub, numNode(a), numNode(b)), numNode(c))))
		}
		d := int(int32(a) - int32(b))
		want := []string{strconv.Itoa(impl.Wrap(d + c)), strconv.Itoa(impl.Wrap(d - c)), strconv.Itoa(impl.Wrap(d * c)), strconv.FormatBool(d < c)}
		if o := impl.Plain(n, 100); o.Code != 0 || !slices.Equal(o.Lines, want) {
			t.Errorf("%d - %d and %d: %d %q, want %q", a, b, c, o.Code, o.Lines, want)
		}
	}
}

func TestP16TextsJoined(t *testing.T) {
	for a := range 31 {
		for b := range 31 {
			one, two := strings.Repeat("a", a), strings.Repeat("b", b)
			src := `print 1; let t = "` + one + `" + "` + two + `"; print t; print t == "` + one + `" + "` + two + `"; print t + ""; print t + "c";`
			switch {
			case a+b > 30:
				checkEnds(t, src, 1, "1")
			case a+b == 30:
				checkEnds(t, src, 1, "1", one+two, "true", one+two)
			default:
				checkPrints(t, src, "1", one+two, "true", one+two, one+two+"c")
			}
		}
	}
	checkEnds(t, `let t = "a"; while (1) { print t; t = t + t; }`, 1, "a", "aa", "aaaa", "aaaaaaaa", "aaaaaaaaaaaaaaaa")
	checkEnds(t, `let t = ""; let i = 0; while (1) { t = t + "x"; i = i + 1; if (i == 30) { print t; } }`, 1, strings.Repeat("x", 30))
	checkPrints(t, `let t = "ab"; let u = t; t = t + "c"; print t; print u; print u + t; print "ab" == u; print "abc" == t; print "a" == "A";`, "abc", "ab", "ababc", "true", "true", "false")
}

func TestP16LetAndSet(t *testing.T) {
	checkPrints(t, "let x = 1; print x; x = 2; print x; x = x + x; print x;", "1", "2", "4")
	checkPrints(t, "print x; let x = 1; print x;", "undefined", "1")
	checkPrints(t, "let x = x; print x; x = 3; let y = x; print y;", "undefined", "3")
	checkPrints(t, "x = 5; print x; let x = 1; print x;", "5", "1")
	checkPrints(t, "if (0) { let x = 1; } print x; if (1) { let y = 2; } print y;", "undefined", "2")
	checkPrints(t, "if (1) { } else { let x = 1; } print x; x = 4; print x;", "undefined", "4")
	checkPrints(t, "let i = 0; while (i < 3) { print x; let x = i; i = i + 1; } print x;", "undefined", "0", "1", "2")
	checkPrints(t, "let x = 1; let f = function() { x = 2; }; print x; f(); print x;", "1", "2")
	checkPrints(t, "let x = 1; let f = function() { let x = 2; print x; x = 3; print x; }; f(); print x;", "2", "3", "1")
	checkPrints(t, "let x = 1; let f = function() { print x; x = 2; print x; let x = 3; print x; }; f(); print x;", "undefined", "2", "3", "1")
	checkPrints(t, "let x = 1; let f = function(x) { x = x + 5; return x; }; print f(2); print x; print f(x);", "7", "1", "6")
	checkPrints(t, "let f = function() { return g(); }; let g = function() { return 4; }; print f();", "4")
	checkEnds(t, "let f = function() { return g(); }; print f(); let g = function() { return 4; };", 1)
	checkPrints(t, "let f = function() { print y; y = 2; }; f(); print y; let y = 7; f(); print y;", "undefined", "2", "7", "2")
	checkPrints(t, "let a = 1; function(b) { function(c) { function(d) { a = b + c + d; b = 20; c = 30; d = 40; print d; }(4); print c; }(3); print b; }(2); print a;", "40", "30", "20", "9")
	checkPrints(t, "let a = 1; let f = function() { let b = 2; let g = function() { let c = 3; let h = function() { a = a + 1; b = b + a; c = c + b; print c; }; h(); h(); print c; }; g(); g(); print b; }; f(); print a; f(); print a;",
		"7", "14", "14", "14", "30", "30", "16", "5", "11", "26", "26", "26", "58", "58", "32", "9")
	// what a name stands for is where the function was made, not where it is called
	checkPrints(t, "let x = 1; let f = function() { return x; }; let g = function() { let x = 2; return f(); }; print g(); let h = function(x) { x = 3; return f() + x; }; print h(9);", "1", "4")
	checkPrints(t, "let x = 1; let f = function(g) { let x = 2; g(); print x; }; f(function() { x = 5; }); print x;", "2", "5")
	// twelve at each place
	for i := range 12 {
		name := "x" + strconv.Itoa(i)
		checkPrints(t, manyLets("x", 12)+name+"=7;print "+name+";print x"+strconv.Itoa((i+1)%12)+";", "7", "1")
		checkPrints(t, "print function("+manyNames("x", 12)+"){return "+name+";}(0,1,2,3,4,5,6,7,8,9,10,11);", strconv.Itoa(i))
	}
}

func TestP16Calls(t *testing.T) {
	f := "let f = function(a, b, c) { print a; print b; print c; }; "
	checkPrints(t, f+"print f();", "undefined", "undefined", "undefined", "undefined")
	checkPrints(t, f+"f(1);", "1", "undefined", "undefined")
	checkPrints(t, f+"f(1, 2);", "1", "2", "undefined")
	checkPrints(t, f+"f(1, 2, 3);", "1", "2", "3")
	checkPrints(t, f+"f(1, 2, 3, 4);", "1", "2", "3")
	checkPrints(t, "let g = function(n) { print n; return n; }; function(a) { print a; }(g(1), g(2), g(3));", "1", "2", "3", "1")
	checkPrints(t, "let g = function(a) { let b = 5; print b; b = a; print b; }; g(1, 7); g(2, 8, 9);", "5", "1", "5", "2")
	checkPrints(t, "let g = function(a) { print b; let b = a; }; g(1, 7); g(2, 8);", "undefined", "undefined")
	checkPrints(t, "function() { print 1; }(2, 3);", "1")
	checkPrints(t, "print function() { }(); print function() { 5; }(); print function() { return 5; }(); print function() { return undefined; print 6; }();", "undefined", "undefined", "5", "undefined")
	checkPrints(t, "let g = function(n) { if (n) { return n; } }; print g(3); print g(0);", "3", "undefined")
	checkPrints(t, "let fib = function(n) { if (n < 2) { return n; } return fib(n - 1) + fib(n - 2); }; print fib(7);", "13")
	checkPrints(t, "let f = function(n) { let m = n; if (n) { f(n - 1); } print m; print n; n = 9; }; f(2);", "0", "0", "1", "1", "2", "2")
	checkPrints(t, "let even = function(n) { if (n == 0) { return true; } return odd(n - 1); }; let odd = function(n) { if (n == 0) { return false; } return even(n - 1); }; print even(9); print odd(9);", "false", "true")
	checkPrints(t, "let o = {f: function(x) { return x + 1; }, g: {h: function() { return o.f; }}}; print o.f(1); print o.g.h()(5); o.f = function(x) { return x - 1; }; print o.f(1); print o.g.h()(5);", "2", "6", "0", "4")
	checkPrints(t, "let twice = function(f) { return function(x) { return f(f(x)); }; }; let inc = function(x) { return x + 1; }; print twice(twice(twice(inc)))(0);", "8")
	checkPrints(t, "let o = {n: 1}; let f = function(p) { p.n = 2; p = {n: 3}; return p; }; print f(o).n; print o.n;", "3", "2")
	checkPrints(t, "let f = function(g) { return g; }; print f(f) == f; print f(f)(f)(4);", "true", "4")
	for _, k := range plainKinds() {
		if k.kind != "function" {
			checkEnds(t, "print 1; "+k.src+"(); print 2;", 1, "1")
			checkEnds(t, "let x = "+k.src+"; let g = function() { print 3; }; print 1; x(g(), g()); print 2;", 1, "1", "3", "3")
			checkEnds(t, "let o = {m: "+k.src+"}; o.m(1);", 1)
		}
	}
	checkEnds(t, "let o = {}; print 1; o.m(1);", 1, "1")
}

// Functions keep their scope when what made them is over; one that is called twice has two.
func TestP16ScopesThatStay(t *testing.T) {
	checkPrints(t, "let c = function() { let n = 0; return function() { n = n + 1; return n; }; }; let d = c(); let e = c(); print d(); print d(); print e(); print d(); print e();", "1", "2", "1", "3", "2")
	checkPrints(t, "let mk = function(n) { return {inc: function() { n = n + 1; }, get: function() { return n; }}; }; let a = mk(5); let b = mk(7); a.inc(); a.inc(); b.inc(); print a.get(); print b.get();", "7", "8")
	checkPrints(t, "let add = function(a) { return function(b) { return function(c) { return a * 100 + b * 10 + c; }; }; }; let one = add(1); let two = one(2); print two(3); print one(4)(5); print add(6)(7)(8); print two(9);", "123", "145", "678", "129")
	checkPrints(t, "let o = {}; let i = 0; while (i < 3) { let j = i; o.f = function() { return j; }; if (i == 0) { o.g = o.f; } i = i + 1; } print o.f(); print o.g(); print o.f == o.g;", "2", "2", "false")
	checkPrints(t, "let o = {}; let i = 0; let mk = function(j) { return function() { return j; }; }; while (i < 3) { o.f = mk(i); if (i == 0) { o.g = o.f; } i = i + 1; } print o.f(); print o.g();", "2", "0")
	checkPrints(t, "let f = function(n) { if (n == 0) { return function() { n = n + 1; return n; }; } return f(n - 1); }; let g = f(3); let h = f(3); print g(); print g(); print h();", "1", "2", "1")
	checkPrints(t, "let keep = null; let f = function(n) { let m = n * 2; if (keep == null) { keep = function() { m = m + n; return m; }; } return keep; }; f(5); f(7); print keep(); print f(9)();", "15", "20")
	checkPrints(t, "let get = null; let set = null; let f = function(v) { get = function() { return v; }; set = function(w) { v = w; }; }; f(1); let g1 = get; let s1 = set; f(2); s1(10); print g1(); print get(); set(20); print g1(); print get();", "10", "2", "10", "20")
	checkPrints(t, "let pair = function(a, b) { return function(f) { return f(a, b); }; }; let first = function(p) { return p(function(a, b) { return a; }); }; let rest = function(p) { return p(function(a, b) { return b; }); }; let l = pair(1, pair(2, pair(3, null))); while (l) { print first(l); l = rest(l); }",
		"1", "2", "3")
}

func TestP16Returns(t *testing.T) {
	checkPrints(t, "print 1; return 2; print 3;", "1")
	checkPrints(t, "print 1; if (1) { return 2; } print 3;", "1")
	checkPrints(t, "print 1; if (0) { } else { return 2; } print 3;", "1")
	checkPrints(t, "print 1; while (1) { return 2; } print 3;", "1")
	checkPrints(t, "print 1; while (1) { if (1) { while (1) { if (0) { } else { return undefined; } } } } print 3;", "1")
	checkPrints(t, "return 0; print 1;")
	checkPrints(t, "return false; print 1;")
	checkPrints(t, "return null; print 1;")
	checkPrints(t, "return undefined; print 1;")
	checkPrints(t, "let f = function() { print 1; return 2; print 3; }; print f(); print 4;", "1", "2", "4")
	checkPrints(t, "let f = function(n) { while (1) { if (n == 3) { return n * 10; } n = n + 1; print n; } print 99; }; print f(1); print f(3);", "2", "3", "30", "30")
	checkPrints(t, "let f = function(n) { let i = 0; while (i < 5) { let j = 0; while (j < 5) { if (i * j == n) { return i * 10 + j; } j = j + 1; } i = i + 1; } return \"none\"; }; print f(6); print f(0); print f(7);", "23", "0", "none")
	checkPrints(t, "let f = function() { if (1) { return function() { return 5; }; } return 6; }; print f()(); print 7;", "5", "7")
	checkPrints(t, "let f = function() { g(); return 1; }; let g = function() { return 2; }; print f();", "1")
	checkPrints(t, "let f = function() { return 1; }; if (f()) { print 1; } while (f() < 1) { } return f(); print 2;", "1")
	checkPrints(t, "return function() { print 1; return 2; }(); print 3;", "1")
}

func TestP16Prototypes(t *testing.T) {
	checkPrints(t, "print {}.proto; print {a: 1}.proto == null; print {}.proto == undefined;", "null", "true", "false")
	checkPrints(t, "let p = {}; let q = {}; q.proto = p; print q.proto == p; print p.proto; print q.proto == {}; print q == p; q.proto = null; print q.proto;", "true", "null", "false", "false", "null")
	checkPrints(t, "let p = {n: 7}; let q = {}; print q.n; q.proto = p; print q.n; q.n = 8; print q.n; print p.n; p.n = 9; print q.n; q.proto = null; print q.n;", "undefined", "7", "8", "7", "8", "8")
	checkPrints(t, "let p = {}; let q = {}; q.proto = p; print q.n; p.n = 1; print q.n; p.n = 2; print q.n; q.proto = {}; print q.n;", "undefined", "1", "2", "undefined")
	checkPrints(t, "let a = {x: 1, y: 1, z: 1}; let b = {x: 2, y: 2}; let c = {x: 3}; c.proto = b; b.proto = a; print c.x; print c.y; print c.z; print c.w; print c.proto.x; print c.proto.proto.x; print c.proto.proto.proto;", "3", "2", "1", "undefined", "2", "1", "null")
	// what is there and undefined is there
	checkPrints(t, "let p = {x: 1}; let q = {x: undefined}; q.proto = p; print q.x; q.x = null; print q.x; q.x = 0; print q.x;", "undefined", "null", "0")
	checkPrints(t, "let p = {x: 1}; let q = {}; q.proto = p; q.x = undefined; print q.x; print p.x;", "undefined", "1")
	checkPrints(t, "let p = {}; let q = {}; let r = {}; q.proto = p; r.proto = p; p.n = 1; q.n = 2; print r.n; r.proto = q; print r.n;", "1", "2")
	checkPrints(t, "let p = {f: function() { return 5; }}; let q = {}; q.proto = p; print q.f(); q.f = 3; print q.f; print p.f();", "5", "3", "5")
	checkPrints(t, "let mk = function(p) { let o = {}; o.proto = p; return o; }; let o = {v: 1}; let i = 0; while (i < 20) { o = mk(o); i = i + 1; } print o.v; print o.w;", "1", "undefined")
	for _, k := range plainKinds() {
		if k.kind != "object" {
			checkEnds(t, "print 1; "+k.src+".p; print 2;", 1, "1")
			checkEnds(t, "print 1; "+k.src+".proto; print 2;", 1, "1")
			checkEnds(t, "print 1; "+k.src+".p = 3; print 2;", 1, "1")
			checkEnds(t, "print 1; "+k.src+".proto = null; print 2;", 1, "1")
			checkEnds(t, "print 1; "+k.src+".proto = {}; print 2;", 1, "1")
		}
		put := "let o = {p: 5}; let q = {q: 6}; o.proto = q; print o.q; o.p = " + k.src + "; print o.p; o.proto = " + k.src + "; print o.q;"
		switch k.kind {
		case "null", "object":
			checkPrints(t, put, "6", k.line, "undefined")
		default:
			checkEnds(t, put, 1, "6", k.line)
		}
	}
}

// circleSource: a circle of so many objects, with so many ahead that lead into it; the last one ahead is o, the first one of the circle c.
func circleSource(ahead, round int) string {
	return "let c={};let o=c;let i=1;while(i<" + strconv.Itoa(round) + "){let n={};n.proto=o;o=n;i=i+1;}c.proto=o;i=0;while(i<" + strconv.Itoa(ahead) + "){n={};n.proto=o;o=n;i=i+1;}"
}

func TestP16PrototypesInACircle(t *testing.T) {
	checkPrints(t, "let a = {x: 1}; a.proto = a; print a.x; print a.q; print a.proto == a; print a.proto.proto.proto.x; a.q = 2; print a.proto.q;", "1", "undefined", "true", "1", "2")
	checkPrints(t, "let a = {x: 1}; let b = {y: 2}; a.proto = b; b.proto = a; print a.y; print b.x; print a.q; print b.q; print a.proto.proto == a; b.q = 3; print a.q; print b.q;", "2", "1", "undefined", "undefined", "true", "3", "3")
	checkPrints(t, "let a = {x: 1}; let b = {y: 2}; let c = {z: 3}; a.proto = b; b.proto = c; c.proto = a; print a.z; print c.y; print b.x; print a.q; print b.q; print c.q; c.proto = null; print a.z; print b.x;", "3", "2", "1", "undefined", "undefined", "undefined", "3", "undefined")
	checkPrints(t, "let a = {}; a.proto = a; let b = {}; b.proto = a; let c = {}; c.proto = b; print c.q; a.q = 1; print c.q; a.proto = null; print c.w;", "undefined", "1", "undefined")
	checkPrints(t, "let a = {}; let b = {}; a.proto = b; b.proto = b; print a.q; b.proto = a; print a.q; print b.q; a.proto = a; print b.q;", "undefined", "undefined", "undefined", "undefined")
	for ahead := range 20 {
		for round := 1; round <= 20; round++ {
			src := circleSource(ahead, round)
			checkPlain(t, mustParse(t, src+"print o.x;print c.x;c.x=1;print o.x;o.y=2;print c.y;print o.y;"), 200000)
			n := mustParse(t, src+"i=0;let a=o;while(i<"+strconv.Itoa(ahead+round)+"){print o.v;a.v=i;a=a.proto;i=i+1;}a.w=5;print o.w;print o.q;")
			want := []string{"undefined"}
			for range ahead + round - 1 {
				want = append(want, "0")
			}
			want = append(want, "5", "undefined")
			if o := checkPlain(t, n, 200000); o.Code != 0 || !slices.Equal(o.Lines, want) {
				t.Errorf("%d ahead of %d: %d %q", ahead, round, o.Code, o.Lines)
			}
			// the one at each place of the line has it alone
			n = mustParse(t, src+"let a=o;i=0;while(i<"+strconv.Itoa(ahead+round)+"){let p=a.proto;a.k=i;print o.k;a.proto=null;print o.k;a.proto=p;a.k=undefined;a=p;i=i+1;}print o.z;")
			checkPlain(t, n, 200000)
		}
	}
	for _, round := range []int{1, 2, 3, 100, 255, 256, 257, 1000, 3000} {
		for _, ahead := range []int{0, 1, 2, 127, 128, 1000, 3000} {
			n := mustParse(t, circleSource(ahead, round)+"print o.x;print c.x;c.x=1;print o.x;c.proto.y=2;print o.y;")
			if o := impl.Plain(n, 200000); o.Code != 0 || !slices.Equal(o.Lines, []string{"undefined", "undefined", "1", "2"}) {
				t.Errorf("%d ahead of %d: %d %q", ahead, round, o.Code, o.Lines)
			}
		}
	}
}

func TestP16Objects(t *testing.T) {
	checkPrints(t, "let o = {a: 1, b: 2, a: 3}; print o.a; print o.b;", "3", "2")
	checkPrints(t, "let f = function(n) { print n; return n; }; let o = {a: f(1), b: f(2), a: f(3), b: f(4), a: f(5)}; print o.a; print o.b;", "1", "2", "3", "4", "5", "5", "4")
	checkPrints(t, "let o = {a: 1, a: undefined}; print o.a; let p = {a: undefined, a: 2}; print p.a;", "undefined", "2")
	checkPrints(t, "let o = {}; print o.a; o.a = 1; print o.a; o.b = o.a; o.a = 2; print o.a; print o.b; print o.c;", "undefined", "1", "2", "1", "undefined")
	checkPrints(t, "let o = {a: {b: {c: 5}}}; print o.a.b.c; o.a.b.c = 6; print o.a.b.c; let p = o.a; p.b = 7; print o.a.b; print o.a;", "5", "6", "7", "object")
	checkPrints(t, "let o = {}; o.o = o; print o.o == o; print o.o.o.o.x; o.o.o.x = 1; print o.x;", "true", "undefined", "1")
	checkPrints(t, "let o = {object: 1, Object: 2, function1: 3, x: 4, X: 5}; print o.object; print o.Object; print o.function1; print o.x; print o.X; print o.objec;", "1", "2", "3", "4", "5", "undefined")
	checkPrints(t, "let o = {x: o}; print o.x; o = {x: o}; print o.x; print o.x.x;", "undefined", "object", "undefined")
	checkPrints(t, "let x = 1; let o = {x: 2}; print x; print o.x; o.x = 3; print x; x = 4; print o.x;", "1", "2", "1", "3")
	// many names in one
	many := node(impl.NdObj)
	var want []string
	for i := range 60 {
		many.Kids = append(many.Kids, nodeOf(impl.NdPair, "n"+strconv.Itoa(i), numNode(i)))
	}
	n := node(impl.NdBlock, nodeOf(impl.NdLet, "o", many))
	for _, i := range []int{0, 1, 7, 8, 9, 30, 58, 59, 60} {
		n.Kids = append(n.Kids, node(impl.NdPrint, nodeOf(impl.NdGet, "n"+strconv.Itoa(i), nodeOf(impl.NdName, "o"))))
		want = append(want, map[bool]string{true: "undefined", false: strconv.Itoa(i)}[i == 60])
	}
	if o := impl.Plain(n, 1000); o.Code != 0 || !slices.Equal(o.Lines, want) {
		t.Error(o)
	}
}

// The very same, and what only looks alike.
func TestP16TheVerySame(t *testing.T) {
	checkPrints(t, "print {} == {}; print {a: 1} == {a: 1}; let o = {}; let p = {}; print o == p; print o == o; let q = o; print q == o; q.x = 1; print q == o; print o.x; o = {x: 1}; print q == o;", "false", "false", "false", "true", "true", "true", "1", "false")
	checkPrints(t, "print function() { } == function() { }; let f = function() { }; let g = f; print f == g; print f == f; g = function() { }; print f == g;", "false", "true", "true", "false")
	checkPrints(t, "let mk = function() { return function() { return 1; }; }; print mk() == mk(); let f = mk(); print f == f; let ob = function() { return {}; }; print ob() == ob();", "false", "true", "false")
	checkPrints(t, "let a = null; let i = 0; while (i < 2) { let f = function() { }; let o = {}; if (a) { print a.f == f; print a.o == o; } a = {f: f, o: o}; print a.f == f; print a.o == o; i = i + 1; }", "true", "true", "false", "false", "true", "true")
	checkPrints(t, "let o = {}; let f = function(p) { return p == o; }; print f(o); print f({}); let b = {v: o}; print b.v == o; let c = {}; c.proto = o; print c.proto == o; print c == o; o.proto = o; print o.proto == o;", "true", "false", "true", "true", "false", "true")
	checkPrints(t, `print undefined == null; print null == null; print undefined == undefined; print 0 == false; print 1 == true; print "" == false; print 0 == ""; print "1" == 1; print "null" == null; print "true" == true; print {} == "object"; print null == false; print undefined == 0;`,
		"false", "true", "true", "false", "false", "false", "false", "false", "false", "false", "false", "false", "false")
	checkPrints(t, `let t = "ab"; print t == "a" + "b"; print "a" + "b" == "b" + "a"; print 2 + 2 == 4; print (1 < 2) == true; print (2 < 1) == false; print !1 == !2;`, "true", "false", "true", "true", "true", "true")
}

// faulty: an expr for each way to end; the names are those of faultHelp.
func faulty() map[int]string {
	return map[int]string{0: "say(1)", 1: "1.p", 2: "deep()", 3: "spin()"}
}

const faultHelp = "let say = function(n) { print n; return n; }; let deep = function() { return deep(); }; let spin = function() { while (1) { } }; "

// Two exprs of each node that has two, each well or with each fault: the left one comes first, and both come ahead of what the node itself wants.
func TestP16WhichFaultFirst(t *testing.T) {
	forms := map[string]int{
		"X + Y;": 0, "X - Y;": 0, "X * Y;": 0, "X < Y;": 0, "X == Y;": 0, "{a: X, b: Y};": 0, "{a: X, a: Y};": 0, "X; Y;": 0, "say(X, Y);": 0, "say(X) + say(Y);": 0, "let x = X; x = Y;": 0, "print X; print Y;": 0,
		"X(Y);": 1, "0(X, Y);": 1, "null(X)(Y);": 1, "X.p = Y;": 1, "X.proto = Y;": 1, "{a: X}.proto = Y;": 1, "X + null + Y;": 1, "{}.proto = X + Y;": 1, "X.p(Y);": 1, "(X + Y)();": 1, "(X == Y).q;": 1, "X + (Y == 1);": 1,
		"if (X) { Y; }": 0, "while (X) { Y; return 1; }": 0, "if (!X) { } else { Y; }": 0, "function() { X; return Y; }();": 0, "let f = function(x) { return Y; }; f(X);": 0, "return X == Y;": 0,
	}
	for form, own := range forms {
		for first, x := range faulty() {
			for second, y := range faulty() {
				src := faultHelp + "print 7; " + strings.NewReplacer("X", x, "Y", y).Replace(form) + " return say(8);"
				n := mustParse(t, src)
				want := own
				// what is wrong with the form's own part of X comes ahead of Y
				if ahead := strings.Contains(form, "null(X)") || strings.Contains(form, "null + Y") || strings.Contains(form, ".p(Y)"); !ahead && second != 0 {
					want = second
				}
				if first != 0 {
					want = first
				}
				got := impl.Plain(n, 2000)
				if got.Code != want || got.Lines[0] != "7" || slices.Contains(got.Lines, "8") != (want == 0 && !strings.Contains(form, "return 1") && !strings.HasPrefix(form, "return")) {
					t.Errorf("%s: %d %q, want %d", src, got.Code, got.Lines, want)
				}
				checkFuels(t, n, 400)
			}
		}
	}
}

// The order in which exprs are done, by what they print.
func TestP16FromTheLeft(t *testing.T) {
	f := "let f = function(n) { print n; return n; }; let o = function(n) { print n; return {}; }; let g = function(n) { print n; return function() { print \"in\"; }; }; "
	checkPrints(t, f+"f(1) + f(2) * f(3) - f(4);", "1", "2", "3", "4")
	checkPrints(t, f+"f(1) * (f(2) + f(3)) < f(4);", "1", "2", "3", "4")
	checkPrints(t, f+"f(1) == f(2);", "1", "2")
	checkPrints(t, f+"!(f(1) + f(2));", "1", "2")
	checkPrints(t, f+"{a: f(1), b: {c: f(2), d: f(3)}, a: f(4)};", "1", "2", "3", "4")
	checkPrints(t, f+"o(1).p = f(2);", "1", "2")
	checkPrints(t, f+"{p: f(1)}.p = f(2);", "1", "2")
	checkPrints(t, f+"g(1)(f(2), f(3), f(4));", "1", "2", "3", "4", "in")
	checkPrints(t, f+"g(f(1), f(2))(f(3));", "1", "2", "1", "3", "in")
	checkPrints(t, f+"f(f(1) + f(2)) + f(4);", "1", "2", "3", "4")
	checkPrints(t, f+"let x = 1; let h = function() { x = x + 10; return x; }; print x + h() + x; print h() + x; print {a: h(), b: x}.b; print function(a, b, c) { return a + b + c; }(x, h(), x);", "23", "42", "31", "113")
	checkPrints(t, f+"let x = g; let h = function() { x = f; return 5; }; x(h())(); print x == f;", "5", "in", "true")
	checkPrints(t, f+"let x = {n: 1}; let y = x; let h = function() { x = {n: 2}; return 7; }; x.n = h(); print x.n; print y.n;", "2", "7")
	checkPrints(t, f+"let x = {n: 1}; let h = function() { x.n = 5; return 1; }; print x.n + h() + x.n;", "7")
	checkEnds(t, f+"f(1) + o(2) + f(3);", 1, "1", "2")
	checkEnds(t, f+"f(1)(f(2), f(3));", 1, "1", "2", "3")
	checkEnds(t, f+"f(1).p = f(2);", 1, "1", "2")
	checkEnds(t, f+"o(1).proto = f(2);", 1, "1", "2")
	checkEnds(t, f+"f(1)()(f(2));", 1, "1")
	checkEnds(t, f+"{a: f(1), b: f(2).p, c: f(3)};", 1, "1", "2")
	checkEnds(t, f+"g(1)(f(2), f(3).p, f(4));", 1, "1", "2", "3")
	checkEnds(t, "print 1; print 2; let f = function() { print 3; 1.p; print 4; }; f(); print 5;", 1, "1", "2", "3")
	checkEnds(t, "let i = 0; while (1) { print i; if (i == 3) { i = i + null; } i = i + 1; }", 1, "0", "1", "2", "3")
	// a put that fails puts nothing, and nobody could see it: what was put ahead of it is seen
	checkEnds(t, "let o = {}; o.p = 1; print o.p; o.p = o.q.r; print 2;", 1, "1")
}

// callRow: so many calls that are not over yet, each within the one ahead of it; the last one does the rest.
func callRow(count int, rest string) string {
	return "let d = function(n) { if (n < 2) { " + rest + " return 0; } return d(n - 1); }; let e = function() { return 1; }; d(" + strconv.Itoa(count) + "); print \"end\";"
}

func TestP16HowManyCalls(t *testing.T) {
	for count := 1; count <= 40; count++ {
		want := 0
		if count > 30 {
			want = 2
		}
		src := "let d = function(n) { print n; if (1 < n) { d(n - 1); } print \"back\"; }; d(" + strconv.Itoa(count) + "); print \"end\";"
		o := impl.Plain(mustParse(t, src), 200000)
		lines := min(count, 30)
		if want == 0 {
			lines = 2*count + 1
		}
		if o.Code != want || len(o.Lines) != lines {
			t.Errorf("%d calls: %d %q", count, o.Code, o.Lines)
		}
		checkFuels(t, mustParse(t, src), 1000)
	}
	// in the last one that may be: one more, one that is over, what is no function
	for count := 27; count <= 31; count++ {
		for rest, deeper := range map[string]int{"": 0, "e();": 1, "e(); e(); e();": 1, "e(e(), e());": 1, "function() { }();": 1, "function() { return e(); }();": 2, "let x = function() { return e; }; x()();": 1, "e; {m: e}.m;": 0, "{m: e}.m(); ": 1, "e(e(e(e())));": 1, "print e() + e();": 1} {
			want := 0
			if count+deeper > 30 || count > 30 {
				want = 2
			}
			o := impl.Plain(mustParse(t, callRow(count, rest)), 200000)
			if o.Code != want || want == 0 != slices.Contains(o.Lines, "end") {
				t.Errorf("%d calls and %q: %d %q, want %d", count, rest, o.Code, o.Lines, want)
			}
		}
		for _, rest := range []string{"1();", "null(1, 2);", "{}();", "1.p;", "1 + null;", "d.x();"} {
			want := 1
			if count > 30 {
				want = 2
			}
			if o := impl.Plain(mustParse(t, callRow(count, rest)), 200000); o.Code != want {
				t.Errorf("%d calls and %q: %d, want %d", count, rest, o.Code, want)
			}
		}
	}
	// with 30 calls at hand: exprs come ahead of the function, the function ahead of the calls, the calls ahead of the fuel for its block
	checkEnds(t, callRow(30, "print 1; e(1.p); print 2;"), 1, "1")
	checkEnds(t, callRow(30, "print 1; 5(e()); print 2;"), 2, "1")
	checkEnds(t, callRow(30, "print 1; e(5()); print 2;"), 1, "1")
	checkEnds(t, callRow(30, "print 1; e(print2); print 2; let print2 = 1;"), 2, "1")
	n := mustParse(t, "let f = function() { print 1; return f(); }; f();")
	for fuel, code := range map[int]int{6 + 30*6 - 1: 3, 6 + 30*6: 2, 6 + 30*6 + 1: 2} {
		if o := impl.Plain(n, fuel); o.Code != code || len(o.Lines) != 30 {
			t.Errorf("%d: %d %q", fuel, o.Code, o.Lines)
		}
	}
	// calls that are over do not count, however many
	checkPrints(t, "let f = function() { return 1; }; let n = 0; let i = 0; while (i < 60) { n = n + f(); i = i + 1; } print n;", "60")
	checkPrints(t, "let f = function(x) { return x; }; print f(f(f(f(f(f(f(f(f(f(f(f(f(f(7))))))))))))));", "7")
	checkPrints(t, "let f = function() { return f; }; print f()()()()()()()()()()()()() == f;", "true")
	for _, rounds := range []int{30, 31, 100, 1000} {
		src := "let d = function(n) { if (n < 2) { return 1; } return d(n - 1); }; let i = 0; while (i < " + strconv.Itoa(rounds) + ") { d(30); i = i + 1; } print i; d(31);"
		o := impl.Plain(mustParse(t, src), 200000)
		want := impl.Outcome{Code: 2, Lines: []string{strconv.Itoa(rounds)}}
		if rounds == 1000 {
			want = impl.Outcome{Code: 3}
		}
		if !sameOut(o, want) {
			t.Errorf("%d rounds: %d %q", rounds, o.Code, o.Lines)
		}
	}
	checkEnds(t, "let f = function() { g(); }; let g = function() { f(); }; f();", 2)
	checkEnds(t, "let o = {}; o.m = function() { return o.m(); }; print 1; o.m(); print 2;", 2, "1")
	checkEnds(t, "let f = function(g) { return g(g); }; f(f);", 2)
	checkEnds(t, "let f = function() { while (1) { if (1) { return {a: !f()}; } } }; f();", 2)
}

func TestP16WhileAndIf(t *testing.T) {
	checkPrints(t, "let i = 0; while (i < 3) { print i; i = i + 1; } print \"end\";", "0", "1", "2", "end")
	checkPrints(t, "while (0) { print 1; } print 2;", "2")
	checkPrints(t, "let i = 3; while (i) { i = i - 1; if (i == 1) { print \"one\"; } else { print i; } }", "2", "one", "0")
	checkPrints(t, "let i = 0; while (i < 2) { let j = 0; while (j < 2) { print i * 10 + j; j = j + 1; } i = i + 1; }", "0", "1", "10", "11")
	checkPrints(t, "let n = 0; let f = function() { n = n + 1; return n < 4; }; while (f()) { print n; } print n;", "1", "2", "3", "4")
	checkPrints(t, "if (1) { print 1; } if (0) { print 2; } if (1) { print 3; } else { print 4; } if (0) { print 5; } else { print 6; } if (0) { print 7; } else { } if (1) { }", "1", "3", "6")
	checkPrints(t, "if (1) { if (0) { print 1; } else { if (1) { print 2; } else { print 3; } print 4; } print 5; } print 6;", "2", "4", "5", "6")
	checkPrints(t, "let f = function() { print \"asked\"; return 1; }; if (f()) { print \"then\"; } else { print \"else\"; }", "asked", "then")
	checkPrints(t, "let l = {v: 1, next: {v: 2, next: {v: 3}}}; while (l) { print l.v; l = l.next; } print l;", "1", "2", "3", "undefined")
	checkPrints(t, "let t = \"\"; while (!(t == \"aaa\")) { t = t + \"a\"; print t; }", "a", "aa", "aaa")
	checkEnds(t, "while (true) { }", 3)
	checkEnds(t, "while (1) { while (1) { } }", 3)
	checkEnds(t, "let i = 0; while (i < 1) { let i2 = i; }", 3)
}

// Programs that are a little longer, by hand.
func TestP16WholePrograms(t *testing.T) {
	checkPrints(t, `let count = function(l) { let n = 0; while (l) { n = n + 1; l = l.next; } return n; };
let push = function(l, v) { return {v: v, next: l}; };
let map = function(l, f) { if (!l) { return null; } return push(map(l.next, f), f(l.v)); };
let l = null; let i = 0; while (i < 4) { l = push(l, i); i = i + 1; }
print count(l); let m = map(l, function(x) { return x * x; }); while (m) { print m.v; m = m.next; }`, "4", "9", "4", "1", "0")
	checkPrints(t, `let Animal = {name: "animal", says: function(a) { return a.name + ": " + a.sound; }};
let mk = function(name) { let a = {name: name}; a.proto = Animal; return a; };
let dog = mk("dog"); dog.sound = "woof"; let cat = mk("cat"); cat.sound = "meow";
print dog.says(dog); print cat.says(cat); Animal.says = function(a) { return a.sound; }; print dog.says(dog); dog.says = function(a) { return "no"; }; print dog.says(dog); print cat.says(cat);`, "dog: woof", "cat: meow", "woof", "no", "meow")
	checkPrints(t, "let hanoi = function(n, a, b, c) { if (n == 0) { return 0; } let m = hanoi(n - 1, a, c, b); print a + b; return m + 1 + hanoi(n - 1, c, b, a); }; print hanoi(2, \"a\", \"b\", \"c\");", "ac", "ab", "cb", "3")
	checkPrints(t, "let primes = function(n) { let i = 2; while (i < n) { let j = 2; let p = true; while (j * j < i + 1) { let k = i; while (0 < k) { k = k - j; } if (k == 0) { p = false; } j = j + 1; } if (p) { print i; } i = i + 1; } }; primes(12);", "2", "3", "5", "7", "11")
	checkEnds(t, "let stack = {top: null}; let push = function(v) { stack.top = {v: v, below: stack.top}; }; let pop = function() { let v = stack.top.v; stack.top = stack.top.below; return v; }; push(1); push(\"two\"); push(stack); print pop(); print pop(); print pop(); print pop();", 1, "object", "two", "1")
}

// lively makes programs whose values are mostly of the kind that is wanted, so that they go on for long; one in wild of them is any.
type lively struct {
	rnd  *dice
	wild int
	loop int
}

func (l *lively) of(list ...impl.Node) impl.Node { return list[l.rnd.below(len(list))] }

func (l *lively) name(names ...string) impl.Node {
	return nodeOf(impl.NdName, names[l.rnd.below(len(names))])
}

// in: a value of that kind, whose names are those of a function with x and y, or of the program.
func (l *lively) in(kind string, within bool, deep int) impl.Node {
	if l.rnd.below(l.wild) == 0 {
		kind = []string{"number", "text", "object", "function", "bool", "undefined"}[l.rnd.below(6)]
	}
	switch kind {
	case "number":
		return l.number(within, deep)
	case "text":
		if deep < 1 || l.rnd.below(2) == 0 {
			return l.of(nodeOf(impl.NdText, "t"), nodeOf(impl.NdText, ""), l.name("t"), nodeOf(impl.NdText, "ab c"), nodeOf(impl.NdGet, "s", l.name("o", "q")))
		}
		return node(impl.NdAdd, l.in("text", within, deep-1), l.in("text", within, deep-1))
	case "object":
		return l.object(within, deep)
	case "function":
		if deep < 3 || l.rnd.below(3) > 0 {
			return l.name("f", "g")
		}
		return l.function(deep - 2)
	case "bool":
		return l.bool(within, deep)
	}
	return l.of(node(impl.NdUndef), node(impl.NdNull), nodeOf(impl.NdGet, "none", l.name("o", "q")))
}

func (l *lively) any(within bool, deep int) impl.Node {
	return l.in([]string{"number", "number", "text", "object", "function", "bool", "undefined"}[l.rnd.below(7)], within, deep)
}

func (l *lively) number(within bool, deep int) impl.Node {
	if deep < 1 || l.rnd.below(3) == 0 {
		if within {
			return l.of(l.name("x"), l.name("a", "b"), numNode(l.rnd.below(4)))
		}
		return l.of(l.name("a", "b"), numNode(l.rnd.below(5)-2), numNode(2147483647), nodeOf(impl.NdGet, "p", l.name("o", "q")))
	}
	switch l.rnd.below(4) {
	case 0:
		return node(impl.NdCall, l.in("function", within, deep-1), l.in("number", within, deep-2), l.in("number", within, deep-2))
	case 1:
		return nodeOf(impl.NdGet, "p", l.in("object", within, deep-1))
	}
	return node(impl.NdAdd+l.rnd.below(3), l.in("number", within, deep-1), l.in("number", within, deep-1))
}

func (l *lively) object(within bool, deep int) impl.Node {
	if deep < 1 || l.rnd.below(2) == 0 {
		return l.name("o", "q")
	}
	n := node(impl.NdObj, nodeOf(impl.NdPair, "p", l.in("number", within, deep-2)))
	for range l.rnd.below(3) {
		n.Kids = append(n.Kids, nodeOf(impl.NdPair, []string{"p", "s", "r"}[l.rnd.below(3)], l.any(within, deep-2)))
	}
	return n
}

func (l *lively) bool(within bool, deep int) impl.Node {
	if deep < 1 {
		return l.of(node(impl.NdTrue), node(impl.NdFalse))
	}
	return l.of(node(impl.NdLess, l.in("number", within, deep-1), l.in("number", within, deep-1)), node(impl.NdSame, l.any(within, deep-1), l.any(within, deep-1)), node(impl.NdNot, l.any(within, deep-1)))
}

// function: one of x and y that tells a number, mostly.
func (l *lively) function(deep int) impl.Node {
	n := node(impl.NdBlock)
	for range l.rnd.below(3) {
		n.Kids = append(n.Kids, l.statement(true, deep-1))
	}
	if l.rnd.below(2) == 0 {
		n.Kids = append(n.Kids, nodeOf(impl.NdLet, "z", l.any(true, deep-2)), node(impl.NdPrint, l.name("z", "y")))
	}
	if l.rnd.below(4) > 0 {
		n.Kids = append(n.Kids, node(impl.NdReturn, l.in("number", true, deep-1)))
	}
	return nodeOf(impl.NdFun, "x y", n)
}

func (l *lively) block(within bool, deep int) impl.Node {
	n := node(impl.NdBlock)
	for range l.rnd.below(3) {
		n.Kids = append(n.Kids, l.statement(within, deep-1))
	}
	return n
}

// counted: a loop of a few rounds, by a counter of its own.
func (l *lively) counted(deep int) impl.Node {
	l.loop++
	name := "c" + strconv.Itoa(l.loop)
	body := l.block(false, deep-1)
	body.Kids = append(body.Kids, nodeOf(impl.NdLet, name, node(impl.NdAdd, node(impl.NdCall, l.name("num"), l.name(name)), numNode(1))))
	return node(impl.NdWhile, node(impl.NdLess, node(impl.NdCall, l.name("num"), l.name(name)), numNode(1+l.rnd.below(4))), body)
}

func (l *lively) statement(within bool, deep int) impl.Node {
	switch l.rnd.below(11) {
	case 0:
		return nodeOf(impl.NdSet, "a", l.in("number", within, deep-1))
	case 1:
		return nodeOf(impl.NdSet, "t", l.in("text", within, deep-1))
	case 2:
		return nodeOf(impl.NdPut, []string{"p", "s", "r"}[l.rnd.below(3)], l.in("object", within, deep-1), l.any(within, deep-2))
	case 3:
		return nodeOf(impl.NdPut, "proto", l.in("object", within, deep-2), l.of(l.in("object", within, deep-2), node(impl.NdNull)))
	case 4:
		return nodeOf(impl.NdSet, []string{"o", "q"}[l.rnd.below(2)], l.in("object", within, deep-1))
	case 5:
		return node(impl.NdIf, l.in("bool", within, deep-2), l.block(within, deep-1), l.block(within, deep-1))
	case 6:
		return node(impl.NdIf, l.any(within, deep-2), l.block(within, deep-1))
	case 7:
		if !within && l.loop < 3 && deep > 2 {
			return l.counted(deep)
		}
		return nodeOf(impl.NdSet, []string{"f", "g"}[l.rnd.below(2)], l.in("function", within, deep-1))
	case 8:
		return node(impl.NdDo, l.any(within, deep-1))
	}
	return node(impl.NdPrint, l.any(within, deep-1))
}

func (l *lively) program(statements, deep int) impl.Node {
	l.loop = 0
	let := func(name string, e impl.Node) impl.Node { return nodeOf(impl.NdLet, name, e) }
	number := nodeOf(impl.NdFun, "v", node(impl.NdBlock, node(impl.NdIf, l.name("v"), node(impl.NdBlock, node(impl.NdReturn, l.name("v")))), node(impl.NdReturn, numNode(0))))
	n := node(impl.NdBlock, let("a", numNode(1)), let("b", numNode(-7)), let("t", nodeOf(impl.NdText, "tx")), let("o", node(impl.NdObj, nodeOf(impl.NdPair, "p", numNode(3)), nodeOf(impl.NdPair, "s", nodeOf(impl.NdText, "s")))),
		let("q", node(impl.NdObj)), let("num", number), nodeOf(impl.NdPut, "proto", nodeOf(impl.NdName, "q"), nodeOf(impl.NdName, "o")))
	n.Kids = append(n.Kids, let("f", l.function(deep-2)), let("g", l.function(deep-2)))
	for range statements {
		n.Kids = append(n.Kids, l.statement(false, deep))
	}
	return n
}

// livelyPrograms: so many that are right.
func livelyPrograms(seed uint64, count int) []impl.Node {
	rnd := &dice{seed}
	var out []impl.Node
	for len(out) < count {
		l := &lively{rnd: rnd, wild: []int{12, 40, 300}[rnd.below(3)]}
		if n := l.program(2+rnd.below(9), 3+rnd.below(4)); wantCheck(n) == 0 {
			out = append(out, n)
		}
	}
	return out
}

func TestP16AnyLivelyProgram(t *testing.T) {
	met, lines, long := [6]int{}, 0, 0
	for _, n := range livelyPrograms(162, 700) {
		run := checkFuels(t, n, 600)
		met[run.code]++
		lines += len(run.lines)
		if len(run.takes) > 200 {
			long++
		}
	}
	if met[0] < 100 || met[1] < 100 || met[2] < 5 || lines < 1000 || long < 50 {
		t.Error("too few of a kind:", met, lines, long)
	}
}

// Programs of every kind as the chapters ahead make them, with every fuel.
func TestP16AnyProgram(t *testing.T) {
	rnd := &dice{163}
	met, ops := [6]int{}, [28]int{}
	for i := range 8000 {
		m := &namer{rnd: rnd, pool: []int{3, 8, 12}[i%3], wild: []int{30, 1000}[i%2], lets: 2 + rnd.below(5)}
		n := varied(rnd, m.program(1+rnd.below(7), 2+rnd.below(6)))
		if wantSize(n) > 250 {
			continue
		}
		if wantCheck(n) != 0 {
			met[checkPlain(t, n, rnd.below(100)).Code]++
			continue
		}
		run := checkFuels(t, n, 100)
		met[run.code]++
		if run.code == 0 {
			for _, one := range nodesOf(&n) {
				ops[one.Op]++
			}
		}
	}
	if met[0] < 500 || met[1] < 500 || met[3] < 50 || met[5] < 100 {
		t.Error("too few of a kind:", met)
	}
	for op, count := range ops[1:] {
		if count < 30 {
			t.Errorf("too few of op %d: %d", op+1, count)
		}
	}
}

// withLets: the names that the makers of trees use are declared, ahead of all: a function of one name, an object, a number.
func withLets(list ...impl.Node) impl.Node {
	n := node(impl.NdBlock, list...)
	has := wantVars(n)
	values := map[string]impl.Node{
		"a": nodeOf(impl.NdFun, "x", node(impl.NdBlock, node(impl.NdPrint, nodeOf(impl.NdName, "x")), node(impl.NdReturn, nodeOf(impl.NdName, "x")))),
		"n": node(impl.NdObj, nodeOf(impl.NdPair, "p", numNode(4))), "v": numNode(6), "g": node(impl.NdNull),
	}
	for _, name := range []string{"a", "n", "v", "g"} {
		if !slices.Contains(has, name) {
			n.Kids = append([]impl.Node{nodeOf(impl.NdLet, name, values[name])}, n.Kids...)
		}
	}
	return n
}

// Each kind of expr within each other one, and within each statement.
func TestP16EachWithinEach(t *testing.T) {
	met, count := [6]int{}, 0
	check := func(list ...impl.Node) {
		n := withLets(list...)
		met[checkPlain(t, n, 300).Code]++
		if count++; count%10 == 0 && wantCheck(n) == 0 {
			checkFuels(t, n, 60)
		}
	}
	shown := func(e impl.Node) impl.Node { return node(impl.NdPrint, e) }
	for _, atom := range atoms() {
		for _, e := range append(exprsWith(atom), atom) {
			for _, s := range statementsWith(e) {
				check(s, shown(numNode(8)))
			}
			for _, outer := range exprsWith(e) {
				check(shown(outer))
			}
		}
	}
	for _, s := range statementsWith(numNode(-1)) {
		for _, about := range statementsAbout(s) {
			check(shown(numNode(1)), about, shown(numNode(2)))
			for _, further := range statementsAbout(about) {
				check(further, shown(numNode(3)))
			}
		}
	}
	if met[0] < 2000 || met[1] < 2000 || met[3] < 20 {
		t.Error("too few of a kind:", met)
	}
}

// With more fuel as much, or more: held against each other one alone, not the one next to it only.
func TestP16MoreFuel(t *testing.T) {
	for _, n := range livelyPrograms(164, 150) {
		var all []impl.Outcome
		for fuel := -3; fuel <= 160; fuel++ {
			all = append(all, impl.Plain(n, fuel))
		}
		for i, less := range all {
			for _, more := range all[i:] {
				if !begins(less, more) {
					t.Fatalf("%s: %+v, then %+v", treeText(n), less, more)
				}
			}
		}
	}
}

// As great as may be, and as deep; and what takes long ends.
func TestP16AsGreatAsMayBe(t *testing.T) {
	for i, more := range deeper() {
		for deep := 3; deep <= 22; deep++ {
			e := numNode(1)
			for wantDeep(more(e)) <= deep-2 {
				e = more(e)
			}
			for wantDeep(e) < deep-2 {
				e = node(impl.NdNot, e)
			}
			n := node(impl.NdBlock, nodeOf(impl.NdLet, "a", node(impl.NdFun, node(impl.NdBlock))), node(impl.NdPrint, e))
			if deep > 20 {
				checkNothingDone(t, strconv.Itoa(i), n)
			} else if code := checkPlain(t, n, 300).Code; code == 5 {
				t.Errorf("%d: %d deep", i, deep)
			} else {
				checkFuels(t, n, 300)
			}
		}
	}
	for size := 195; size <= 203; size++ {
		n := filledTree(node(impl.NdPrint, numNode(1)), size)
		if size > 200 {
			checkNothingDone(t, strconv.Itoa(size), n)
		} else {
			checkFuels(t, n, 300)
		}
	}
	var names []string
	for i := range 12 {
		names = append(names, "p"+strconv.Itoa(i))
	}
	sum := numNode(0)
	for _, name := range names {
		sum = node(impl.NdAdd, sum, nodeOf(impl.NdName, name))
	}
	call := node(impl.NdCall, nodeOf(impl.NdFun, strings.Join(names, " "), node(impl.NdBlock, node(impl.NdReturn, sum))))
	for i := range 160 {
		call.Kids = append(call.Kids, numNode(i))
	}
	if o := checkPlain(t, node(impl.NdBlock, node(impl.NdPrint, call)), 1000); !sameOut(o, impl.Outcome{Lines: []string{"66"}}) {
		t.Error(o)
	}
	for _, src := range []string{
		"while (1) { function() { }; {a: 1}; }", "while (1) { let o = {p: o}; }", "let o = {}; while (1) { let q = {}; q.proto = o; o = q; }", "let f = function() { }; while (1) { f(); }",
		"let f = null; while (1) { let g = function(h) { return function() { return h; }; }; f = g(f); }", "let d = function(n) { if (n) { d(n - 1); d(n - 1); } }; d(29);", "let i = 0; while (1) { print i; i = i + 1; }",
		"let o = {}; o.proto = o; while (1) { o.x; {}; }",
	} {
		if o := checkPlain(t, mustParse(t, src), math.MaxInt); o.Code != 3 {
			t.Errorf("%q: %d", src, o.Code)
		}
	}
	long := mustParse(t, "let o = {}; let i = 0; while (i < 3000) { let q = {}; q.proto = o; o = q; i = i + 1; } while (1) { o.x; }")
	if o := impl.Plain(long, math.MaxInt); o.Code != 3 {
		t.Error("a long line of prototypes:", o.Code)
	}
}

func checkLines(t *testing.T, lines []string, want string) {
	t.Helper()
	for _, code := range []int{0, 1, 2, 3, 4, 5, 6, -1, math.MaxInt, math.MinInt} {
		if got := impl.Lines(impl.Outcome{Code: code, Lines: lines}); got != want {
			t.Errorf("%d %.300q: %.300q, want %.300q", code, lines, got, want)
		}
	}
}

func TestP16Lines(t *testing.T) {
	checkLines(t, nil, "")
	checkLines(t, []string{}, "")
	checkLines(t, []string{""}, "\n")
	checkLines(t, []string{"", ""}, "\n\n")
	checkLines(t, []string{"a"}, "a\n")
	checkLines(t, []string{"a", "b"}, "a\nb\n")
	checkLines(t, []string{"a", "", "b", ""}, "a\n\nb\n\n")
	checkLines(t, []string{"", "a"}, "\na\n")
	checkLines(t, []string{"\n"}, "\n\n")
	checkLines(t, []string{"a\nb", "\r\n", " "}, "a\nb\n\r\n\n \n")
	checkLines(t, []string{"\x00", "\xff\xfe", "\u00e9"}, "\x00\n\xff\xfe\n\u00e9\n")
	for b := range 256 {
		checkLines(t, []string{string([]byte{byte(b)}), "x"}, string([]byte{byte(b), 10, 'x', 10}))
	}
	for _, text := range oddTexts() {
		checkLines(t, []string{text, text}, text+"\n"+text+"\n")
	}
	for src, want := range map[string]string{"": "", "print \"\";": "\n", "print 1; print \"a b\"; print null;": "1\na b\nnull\n", "print 1; 1.p; print 2;": "1\n"} {
		if got := impl.Lines(impl.Plain(mustParse(t, src), 100)); got != want {
			t.Errorf("%q: %q, want %q", src, got, want)
		}
	}
	rnd := &dice{165}
	texts := oddTexts()
	for range 500 {
		var lines []string
		want := ""
		for range rnd.below(20) {
			lines = append(lines, texts[rnd.below(len(texts))])
			want += lines[len(lines)-1] + "\n"
		}
		checkLines(t, lines, want)
	}
}

func TestP21LinesOfGreatOutcomes(t *testing.T) {
	const many = 1000000
	checkLines(t, make([]string, many), strings.Repeat("\n", many))
	checkLines(t, slices.Repeat([]string{"ab"}, many), strings.Repeat("ab\n", many))
	long := strings.Repeat("x", many)
	checkLines(t, []string{long, "", long}, long+"\n\n"+long+"\n")
}

func TestP21LinesAreNotWrittenInto(t *testing.T) {
	for _, lines := range [][]string{nil, {}, {""}, {"a", "b"}, {"", "\n", "\xff"}} {
		whole := append(slices.Clone(lines), "behind", "further")
		before := slices.Clone(whole)
		o := impl.Outcome{Code: 1, Lines: whole[:len(lines)]}
		first, second := impl.Lines(o), impl.Lines(o)
		if first != second || !slices.Equal(whole, before) || o.Code != 1 || len(o.Lines) != len(lines) {
			t.Errorf("%q: %q and %q, then %q", lines, first, second, whole)
		}
		for i := range whole {
			whole[i] = "spoilt"
		}
		if first != strings.Join(append(slices.Clone(lines), ""), "\n") {
			t.Errorf("%q: what was told is turned: %q", lines, first)
		}
	}
}

func anyFuel(rnd *dice) int {
	edges := edgeNumbers()
	switch rnd.below(3) {
	case 0:
		return edges[rnd.below(len(edges))]
	case 1:
		return 199990 + rnd.below(20)
	}
	return rnd.below(200)
}

func TestP21PlainOfAnyTree(t *testing.T) {
	rnd := &dice{166}
	for range 3000 {
		checkPlain(t, anyTree(rnd, 1+rnd.below(6)), anyFuel(rnd))
		checkPlain(t, anyNamedTree(rnd, 1+rnd.below(5)), anyFuel(rnd))
		n := anyNamedTree(rnd, 1+rnd.below(4))
		n.Op, n.S, n.N = impl.NdBlock, "", 0
		checkPlain(t, n, anyFuel(rnd))
	}
	right, wrong := 0, 0
	for range 15 {
		for _, n := range livelyPrograms(uint64(167+rnd.below(1000)), 100) {
			n = roomy(n)
			all := nodesOf(&n)
			turnOne(rnd, all[rnd.below(len(all))])
			if checkPlain(t, n, rnd.below(500)).Code == 5 {
				wrong++
			} else {
				right++
			}
		}
	}
	if right < 100 || wrong < 500 {
		t.Error("too few of a kind:", right, wrong)
	}
	for _, op := range anyOps() {
		for _, s := range append(oddTexts(), "x", "a b", "a  b", " ", strings.Repeat("x", 1<<16)) {
			checkPlain(t, impl.Node{Op: op, S: s, N: op}, 10)
			checkPlain(t, impl.Node{Op: op, S: s, Kids: []impl.Node{}}, 10)
			checkPlain(t, node(impl.NdBlock, nodeOf(op, s, nodeOf(op, s), nodeOf(impl.NdLet, s))), 10)
		}
	}
	checkPlain(t, impl.Node{Op: impl.NdBlock, Kids: []impl.Node{}}, 1)
	checkPlain(t, node(impl.NdBlock, impl.Node{Op: impl.NdPrint, Kids: []impl.Node{{Op: impl.NdNum, Kids: []impl.Node{}}}}), 3)
	checkPlain(t, node(impl.NdBlock, impl.Node{Op: impl.NdPrint, Kids: []impl.Node{{Op: impl.NdObj, Kids: []impl.Node{}}}}), 3)
	for _, fuel := range edgeNumbers() {
		checkPlain(t, mustParse(t, "print 1; let f = function(x) { print x; return f(x + 1); }; f(2);"), fuel)
	}
}

func TestP21PlainOfGreatTrees(t *testing.T) {
	const many = 1000000
	checkNothingWith(t, "a deep one", chainOf(many), 200000)
	checkNothingWith(t, "a deep one in a program", node(impl.NdBlock, node(impl.NdPrint, numNode(1)), node(impl.NdDo, chainOf(many))), 200000)
	checkNothingWith(t, "a wide one", node(impl.NdBlock, make([]impl.Node, many)...), 200000)
	checkNothingWith(t, "a long program", node(impl.NdBlock, slices.Repeat([]impl.Node{node(impl.NdPrint, numNode(1))}, many)...), 200000)
	funs := node(impl.NdBlock)
	for range many / 10 {
		funs = node(impl.NdBlock, node(impl.NdDo, node(impl.NdCall, node(impl.NdFun, funs))))
	}
	checkNothingWith(t, "deep functions", funs, 200000)
	var names []string
	for i := range many / 10 {
		names = append(names, "n"+strconv.Itoa(i))
	}
	checkNothingWith(t, "many names", node(impl.NdBlock, node(impl.NdDo, nodeOf(impl.NdFun, strings.Join(names, " "), node(impl.NdBlock)))), 200000)
	row := make([]impl.Node, 1)
	row[0] = impl.Node{Op: impl.NdWhile, Kids: []impl.Node{numNode(1), {Op: impl.NdBlock, Kids: row}}}
	checkNothingWith(t, "a ring", impl.Node{Op: impl.NdBlock, Kids: row}, 200000)
	f := make([]impl.Node, 1)
	f[0] = node(impl.NdDo, node(impl.NdFun, impl.Node{Op: impl.NdBlock, Kids: f}))
	checkNothingWith(t, "a ring of functions", impl.Node{Op: impl.NdBlock, Kids: f}, 200000)
	deep := numNode(1)
	for range 300 {
		deep = node(impl.NdAdd, deep, deep)
	}
	checkNothingWith(t, "each one twice", node(impl.NdBlock, node(impl.NdPrint, deep)), 200000)
}

// One list may stand at many places: what is done there is what stands there, with the names that are seen there.
func TestP21PlainOfSharedLists(t *testing.T) {
	row := mustParse(t, `print a; a = a + 1; print function(b) { print b + a; return function() { b = b + 1; a = a + b; return a; }; }(a)();`).Kids
	block := func() impl.Node { return impl.Node{Op: impl.NdBlock, Kids: row} }
	call := func(names string, with ...impl.Node) impl.Node {
		return node(impl.NdDo, node(impl.NdCall, append([]impl.Node{nodeOf(impl.NdFun, names, block())}, with...)...))
	}
	n := node(impl.NdBlock, nodeOf(impl.NdLet, "a", numNode(1)), node(impl.NdIf, numNode(1), block(), block()), call("a", numNode(50)), call("c", numNode(70)), call("b a", numNode(100), numNode(200)))
	o := checkPlain(t, n, 200000)
	if want := []string{"1", "4", "5", "50", "102", "103", "5", "12", "13", "200", "402", "403"}; o.Code != 0 || !slices.Equal(o.Lines, want) {
		t.Errorf("%d %q, want %q", o.Code, o.Lines, want)
	}
	checkFuels(t, n, 1000)
	fun := []impl.Node{nodeOf(impl.NdFun, "x", node(impl.NdBlock, nodeOf(impl.NdLet, "y", nodeOf(impl.NdName, "x")), node(impl.NdReturn, nodeOf(impl.NdName, "y"))))}
	same := node(impl.NdBlock)
	for range 13 {
		same.Kids = append(same.Kids, impl.Node{Op: impl.NdPrint, Kids: []impl.Node{{Op: impl.NdSame, Kids: slices.Repeat(fun, 2)}}})
	}
	checkFuels(t, same, 1000)
	both := slices.Repeat(fun, 2)
	checkFuels(t, node(impl.NdBlock, impl.Node{Op: impl.NdPrint, Kids: []impl.Node{{Op: impl.NdCall, Kids: both}}}, impl.Node{Op: impl.NdDo, Kids: both[1:]}, impl.Node{Op: impl.NdPrint, Kids: both[:1]}), 1000)
	// a function that stands in two others, which have what it names at other places
	inner := []impl.Node{node(impl.NdCall, node(impl.NdFun, node(impl.NdBlock, node(impl.NdPrint, nodeOf(impl.NdName, "k")), nodeOf(impl.NdSet, "k", numNode(7)))))}
	body := node(impl.NdBlock, impl.Node{Op: impl.NdDo, Kids: inner}, node(impl.NdPrint, nodeOf(impl.NdName, "k")))
	two := node(impl.NdBlock, nodeOf(impl.NdLet, "k", numNode(1)), node(impl.NdDo, node(impl.NdCall, nodeOf(impl.NdFun, "j k", body), numNode(2), numNode(3))), node(impl.NdDo, node(impl.NdCall, nodeOf(impl.NdFun, "k", body), numNode(4))),
		node(impl.NdDo, node(impl.NdCall, nodeOf(impl.NdFun, "i", body), numNode(5))), node(impl.NdPrint, nodeOf(impl.NdName, "k")))
	if o := checkPlain(t, two, 1000); o.Code != 0 || !slices.Equal(o.Lines, []string{"3", "7", "4", "7", "1", "7", "7"}) {
		t.Errorf("%d %q", o.Code, o.Lines)
	}
	checkFuels(t, two, 1000)
}

func TestP21OutcomesToldAreNew(t *testing.T) {
	for i, n := range livelyPrograms(168, 150) {
		n = roomy(n)
		before := wholeText(n)
		fuel := []int{30, 100, 300, 200000}[i%4]
		first, second := impl.Plain(n, fuel), impl.Plain(n, fuel)
		want := impl.Outcome{Code: first.Code, Lines: slices.Clone(first.Lines)}
		whole := first.Lines[:cap(first.Lines)]
		for j := range whole {
			whole[j] = "spoilt"
		}
		if wholeText(n) != before {
			t.Fatalf("%s, then %s", before, wholeText(n))
		}
		if third := impl.Plain(n, fuel); !sameOut(second, want) || !sameOut(third, want) {
			t.Errorf("%s: %v and %v, want %v", before, second, third, want)
		}
		for _, list := range allLists(n) {
			for j := range list {
				list[j] = spoiltNode()
			}
		}
		if !sameOut(second, want) {
			t.Errorf("%s: what was told is turned: %v", before, second)
		}
	}
}

func TestP21PlainWritesIntoNothing(t *testing.T) {
	rnd := &dice{169}
	trees := slices.Concat(livelyPrograms(170, 200), compiledPrograms(t), namedPrograms(t))
	for range 200 {
		trees = append(trees, anyNamedTree(rnd, 5), anyTree(rnd, 4))
	}
	for _, n := range trees {
		n = roomy(n)
		before := wholeText(n)
		for _, fuel := range []int{-1, 5, 50, 2000} {
			checkPlain(t, n, fuel)
			checkPlain(t, n, fuel)
		}
		if wholeText(n) != before {
			t.Fatalf("%s, then %s", before, wholeText(n))
		}
	}
}

func TestP21PlainAskedByManyAtOnce(t *testing.T) {
	programs := livelyPrograms(171, 60)
	var all sync.WaitGroup
	for range 16 {
		all.Go(func() {
			for _, n := range programs {
				checkPlain(t, n, 1000)
			}
			checkLines(t, []string{"a", "b"}, "a\nb\n")
		})
	}
	all.Wait()
}
