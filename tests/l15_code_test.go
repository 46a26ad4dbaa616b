package tests

import (
	"math"
	"slices"
	"strconv"
	"strings"
	"sync"
	"testing"

	"loop.example/g00242/impl"
)

// opRow: an op's name, and what its A and B are: a number, a text, a depth, a place, how many, a step, a code, or nothing.
type opRow struct{ name, a, b string }

// opTable: by number, as the chapter tells them.
var opTable = [...]opRow{
	{}, {"int", "number", ""}, {"text", "text", ""}, {"undef", "", ""}, {"null", "", ""}, {"true", "", ""}, {"false", "", ""}, {"load", "depth", "place"}, {"store", "depth", "place"},
	{"get", "text", ""}, {"put", "text", ""}, {"obj", "", ""}, {"call", "many", ""}, {"return", "", ""}, {"add", "", ""}, {"sub", "", ""}, {"mul", "", ""}, {"less", "", ""}, {"same", "", ""},
	{"not", "", ""}, {"jump", "step", ""}, {"else", "step", ""}, {"print", "", ""}, {"pop", "", ""}, {"fun", "code", ""}, {"field", "text", ""},
}

// noOps: numbers that are no op.
func noOps() []int {
	return []int{0, 26, 27, 28, 100, 255, 256, 257, 281, -1, -13, -25, -26, 1 << 31, 1<<32 + 3, -(1 << 32) + 3, 1<<62 + 3, math.MaxInt, math.MinInt, math.MinInt + 3}
}

// limitsOf: the least and the greatest that may be there.
func limitsOf(what string, u impl.Unit, c impl.Code) (int, int) {
	switch what {
	case "number":
		return -2147483648, 2147483647
	case "text":
		return 0, len(u.Texts) - 1
	case "depth":
		return 0, 40
	case "place":
		return 0, 11
	case "many":
		return 0, 200
	case "step":
		return 0, len(c.Steps) - 1
	case "code":
		return 0, len(u.Codes) - 1
	}
	return 0, 0
}

func wantStepOk(s impl.Step, u impl.Unit, c impl.Code) bool {
	if s.Op < 1 || s.Op > 25 {
		return false
	}
	row := opTable[s.Op]
	leastA, mostA := limitsOf(row.a, u, c)
	leastB, mostB := limitsOf(row.b, u, c)
	return leastA <= s.A && s.A <= mostA && leastB <= s.B && s.B <= mostB
}

func wantUnitOk(u impl.Unit) bool {
	if len(u.Codes) == 0 || len(u.Codes) > 40 || len(u.Texts) > 200 || slices.ContainsFunc(u.Texts, func(text string) bool { return len(text) > 30 }) {
		return false
	}
	return !slices.ContainsFunc(u.Codes, func(c impl.Code) bool {
		sizes := c.Names < 0 || c.Vars < c.Names || c.Vars > 12 || len(c.Steps) == 0 || len(c.Steps) > 2000
		return sizes || slices.ContainsFunc(c.Steps, func(s impl.Step) bool { return !wantStepOk(s, u, c) }) || c.Steps[len(c.Steps)-1].Op != 13
	})
}

// wantStepText: what stands where nothing belongs is not told.
func wantStepText(s impl.Step) string {
	if s.Op < 1 || s.Op > 25 {
		return ""
	}
	row := opTable[s.Op]
	words := []string{row.name}
	if row.a != "" {
		words = append(words, strconv.Itoa(s.A))
	}
	if row.b != "" {
		words = append(words, strconv.Itoa(s.B))
	}
	return strings.Join(words, " ")
}

// codeLine: a code in one line; what stands where nothing belongs is to be seen.
func codeLine(c impl.Code) string {
	var steps []string
	for _, s := range c.Steps {
		text := wantStepText(s)
		if back := stepOf(text); back != s {
			text = "odd " + strconv.Itoa(s.Op) + " " + strconv.Itoa(s.A) + " " + strconv.Itoa(s.B)
		}
		steps = append(steps, text)
	}
	return strconv.Itoa(c.Names) + " " + strconv.Itoa(c.Vars) + ": " + strings.Join(steps, ", ")
}

// stepOf: the step that has such a text.
func stepOf(text string) impl.Step {
	words := strings.Split(text, " ")
	s := impl.Step{Op: slices.IndexFunc(opTable[:], func(row opRow) bool { return row.name == words[0] })}
	if len(words) > 1 {
		s.A, _ = strconv.Atoi(words[1])
	}
	if len(words) > 2 {
		s.B, _ = strconv.Atoi(words[2])
	}
	return s
}

func codeLines(u impl.Unit) []string {
	var out []string
	for _, c := range u.Codes {
		out = append(out, codeLine(c))
	}
	return out
}

// unitText: two units are alike where their texts are.
func unitText(u impl.Unit) string {
	out := strings.Join(codeLines(u), "\n") + "\n"
	for _, text := range u.Texts {
		out += " " + strconv.Quote(text)
	}
	return out
}

// draftStep: a step whose text and goal are still said by name; a mark is where goals lead to.
type draftStep struct {
	impl.Step
	text       string
	goal, mark int
}

type draftCode struct {
	names, vars int
	scopes      [][]string
	lines       []draftStep
}

// draft: a unit as the tests reckon it: functions are gone into where they stand, and what is said by name is put in place when all is there.
type draft struct {
	codes []*draftCode
	marks int
}

func (d *draft) function(n impl.Node, about [][]string) int {
	c := &draftCode{vars: len(wantVars(n)), scopes: append(slices.Clone(about), wantVars(n))}
	if n.Op == impl.NdFun && n.S != "" {
		c.names = 1 + strings.Count(n.S, " ")
	}
	number := len(d.codes)
	d.codes = append(d.codes, c)
	for _, kid := range n.Kids {
		d.draw(c, kid)
	}
	c.add("undef")
	c.add("return")
	return number
}

func (c *draftCode) add(name string, numbers ...int) {
	s := stepOf(name)
	for i, n := range numbers {
		if i == 0 {
			s.A = n
		} else {
			s.B = n
		}
	}
	c.lines = append(c.lines, draftStep{Step: s})
}

func (c *draftCode) addText(name, text string) {
	c.lines = append(c.lines, draftStep{Step: stepOf(name), text: text})
}

func (c *draftCode) addGoal(name string, mark int) {
	c.lines = append(c.lines, draftStep{Step: stepOf(name), goal: mark})
}

func (c *draftCode) addMark(mark int) { c.lines = append(c.lines, draftStep{mark: mark}) }

func (c *draftCode) addPlace(op, name string) {
	depth, place, _ := wantFind(c.scopes, name)
	c.add(op, depth, place)
}

func (d *draft) draw(c *draftCode, n impl.Node) {
	switch n.Op {
	case impl.NdIf, impl.NdWhile:
		d.drawBranch(c, n)
		return
	case impl.NdObj:
		c.add("obj")
	case impl.NdFun:
		c.add("fun", d.function(n, c.scopes))
		return
	}
	for _, kid := range n.Kids {
		d.draw(c, kid)
	}
	name := map[int]string{
		impl.NdReturn: "return", impl.NdPrint: "print", impl.NdDo: "pop", impl.NdTrue: "true", impl.NdFalse: "false", impl.NdNull: "null", impl.NdUndef: "undef",
		impl.NdAdd: "add", impl.NdSub: "sub", impl.NdMul: "mul", impl.NdLess: "less", impl.NdSame: "same", impl.NdNot: "not",
	}[n.Op]
	switch n.Op {
	case impl.NdLet, impl.NdSet:
		c.addPlace("store", n.S)
	case impl.NdName:
		c.addPlace("load", n.S)
	case impl.NdPut:
		c.addText("put", n.S)
	case impl.NdGet:
		c.addText("get", n.S)
	case impl.NdPair:
		c.addText("field", n.S)
	case impl.NdText:
		c.addText("text", n.S)
	case impl.NdNum:
		c.add("int", n.N)
	case impl.NdCall:
		c.add("call", len(n.Kids)-1)
	case impl.NdBlock, impl.NdObj:
	default:
		c.add(name)
	}
}

func (d *draft) drawBranch(c *draftCode, n impl.Node) {
	first, second, last := d.marks+1, d.marks+2, d.marks+3
	d.marks += 3
	c.addMark(first)
	d.draw(c, n.Kids[0])
	c.addGoal("else", second)
	d.draw(c, n.Kids[1])
	switch {
	case n.Op == impl.NdWhile:
		c.addGoal("jump", first)
		c.addMark(second)
	case len(n.Kids) == 3:
		c.addGoal("jump", last)
		c.addMark(second)
		d.draw(c, n.Kids[2])
	default:
		c.addMark(second)
	}
	c.addMark(last)
}

// settled: each goal is a place, and each text a number, in the order in which steps stand.
func (d *draft) settled() impl.Unit {
	var u impl.Unit
	for _, c := range d.codes {
		places, count := map[int]int{}, 0
		for _, line := range c.lines {
			if line.mark > 0 {
				places[line.mark] = count
			} else {
				count++
			}
		}
		code := impl.Code{Names: c.names, Vars: c.vars}
		for _, line := range c.lines {
			s := line.Step
			switch what := opTable[s.Op].a; {
			case line.mark > 0:
				continue
			case what == "step":
				s.A = places[line.goal]
			case what == "text":
				if !slices.Contains(u.Texts, line.text) {
					u.Texts = append(u.Texts, line.text)
				}
				s.A = slices.Index(u.Texts, line.text)
			}
			code.Steps = append(code.Steps, s)
		}
		u.Codes = append(u.Codes, code)
	}
	return u
}

func wantCompile(n impl.Node) (impl.Unit, int) {
	if code := wantCheck(n); code != 0 {
		return impl.Unit{}, code
	}
	d := &draft{}
	d.function(n, nil)
	return d.settled(), 0
}

// backward reads a unit back as the tree that it was made of; names are those of its functions.
type backward struct {
	u     impl.Unit
	names [][]string
}

func (b *backward) function(number int, about [][]string) (impl.Node, bool) {
	if number >= len(b.u.Codes) {
		return impl.Node{}, false
	}
	c, own := b.u.Codes[number], b.names[number]
	last := len(c.Steps) - 2
	if last < 0 || c.Names > len(own) || c.Vars != len(own) || codeLine(impl.Code{Steps: c.Steps[last:]}) != "0 0: undef, return" {
		return impl.Node{}, false
	}
	kids, ok := b.statements(c.Steps, 0, last, append(slices.Clone(about), own))
	return nodeOf(impl.NdFun, strings.Join(own[:c.Names], " "), node(impl.NdBlock, kids...)), ok
}

// statements: what stands from a place to another one, whole; a choice whose reading does not come out even is read in another way.
func (b *backward) statements(steps []impl.Step, from, to int, scopes [][]string) ([]impl.Node, bool) {
	if from == to {
		return nil, true
	}
	var stack []impl.Node
	for i := from; i < to; i++ {
		s := steps[i]
		if s.Op == impl.OpElse && len(stack) == 1 {
			return b.branch(steps, from, i, to, stack[0], scopes)
		}
		if n, ends := b.ending(s, stack, scopes); ends {
			rest, ok := b.statements(steps, i+1, to, scopes)
			return append([]impl.Node{n}, rest...), ok
		}
		var ok bool
		if stack, ok = b.expr(s, stack, scopes); !ok {
			return nil, false
		}
	}
	return nil, false
}

func (b *backward) branch(steps []impl.Step, from, at, to int, expr impl.Node, scopes [][]string) ([]impl.Node, bool) {
	goal := steps[at].A
	if goal <= at || goal > to {
		return nil, false
	}
	blocks := func(cuts ...int) ([]impl.Node, bool) {
		kids := []impl.Node{expr}
		for i := 0; i < len(cuts); i += 2 {
			if cuts[i] > cuts[i+1] || cuts[i+1] > to {
				return nil, false
			}
			inner, ok := b.statements(steps, cuts[i], cuts[i+1], scopes)
			if !ok {
				return nil, false
			}
			kids = append(kids, node(impl.NdBlock, inner...))
		}
		return kids, true
	}
	behind := func(op int, kids []impl.Node, end int) ([]impl.Node, bool) {
		rest, ok := b.statements(steps, end, to, scopes)
		return append([]impl.Node{node(op, kids...)}, rest...), ok
	}
	if kids, ok := blocks(at+1, goal); ok {
		return behind(impl.NdIf, kids, goal)
	}
	jump := steps[goal-1]
	if jump.Op != impl.OpJump {
		return nil, false
	}
	if jump.A == from {
		kids, ok := blocks(at+1, goal-1)
		if !ok {
			return nil, false
		}
		return behind(impl.NdWhile, kids, goal)
	}
	kids, ok := blocks(at+1, goal-1, goal, jump.A)
	if !ok {
		return nil, false
	}
	return behind(impl.NdIf, kids, jump.A)
}

// ending: a statement that a step ends. A let can't be told from a set.
func (b *backward) ending(s impl.Step, stack []impl.Node, scopes [][]string) (impl.Node, bool) {
	plain := map[int]int{impl.OpReturn: impl.NdReturn, impl.OpPrint: impl.NdPrint, impl.OpPop: impl.NdDo}
	switch {
	case s.Op == impl.OpPut && len(stack) == 2:
		return nodeOf(impl.NdPut, b.u.Texts[s.A], stack...), true
	case s.Op == impl.OpStore && len(stack) == 1:
		return nodeOf(impl.NdSet, nameThere(scopes, s), stack[0]), true
	case plain[s.Op] > 0 && len(stack) == 1:
		return node(plain[s.Op], stack[0]), true
	}
	return impl.Node{}, false
}

func nameThere(scopes [][]string, s impl.Step) string {
	if s.A >= len(scopes) || s.B >= len(scopes[len(scopes)-1-s.A]) {
		return "?"
	}
	return scopes[len(scopes)-1-s.A][s.B]
}

func (b *backward) expr(s impl.Step, stack []impl.Node, scopes [][]string) ([]impl.Node, bool) {
	leaf := map[int]int{impl.OpUndef: impl.NdUndef, impl.OpNull: impl.NdNull, impl.OpTrue: impl.NdTrue, impl.OpFalse: impl.NdFalse, impl.OpObj: impl.NdObj}
	inner := map[int]int{impl.OpAdd: impl.NdAdd, impl.OpSub: impl.NdSub, impl.OpMul: impl.NdMul, impl.OpLess: impl.NdLess, impl.OpSame: impl.NdSame, impl.OpNot: impl.NdNot, impl.OpGet: impl.NdGet, impl.OpCall: impl.NdCall}
	takes := map[int]int{impl.OpAdd: 2, impl.OpSub: 2, impl.OpMul: 2, impl.OpLess: 2, impl.OpSame: 2, impl.OpNot: 1, impl.OpGet: 1, impl.OpCall: s.A + 1, impl.OpField: 2}[s.Op]
	if len(stack) < takes {
		return nil, false
	}
	ahead, kids := stack[:len(stack)-takes:len(stack)-takes], slices.Clone(stack[len(stack)-takes:])
	var n impl.Node
	switch {
	case s.Op == impl.OpInt:
		n = numNode(s.A)
	case s.Op == impl.OpText:
		n = nodeOf(impl.NdText, b.u.Texts[s.A])
	case s.Op == impl.OpLoad:
		n = nodeOf(impl.NdName, nameThere(scopes, s))
	case s.Op == impl.OpFun:
		f, ok := b.function(s.A, scopes)
		if !ok {
			return nil, false
		}
		n = f
	case s.Op == impl.OpField && kids[0].Op == impl.NdObj:
		n = kids[0]
		n.Kids = append(slices.Clone(n.Kids), nodeOf(impl.NdPair, b.u.Texts[s.A], kids[1]))
	case leaf[s.Op] > 0:
		n = node(leaf[s.Op])
	case inner[s.Op] > 0:
		n = node(inner[s.Op], kids...)
		if s.Op == impl.OpGet {
			n.S = b.u.Texts[s.A]
		}
	default:
		return nil, false
	}
	return append(ahead, n), true
}

// funsMet: the numbers of functions in the order in which steps name them, each one gone into where it is named.
func funsMet(u impl.Unit, number int) []int {
	out := []int{number}
	for _, s := range u.Codes[number].Steps {
		if s.Op == impl.OpFun {
			out = append(out, funsMet(u, s.A)...)
		}
	}
	return out
}

// withoutLets: each let is a set.
func withoutLets(n impl.Node) impl.Node {
	if n.Op == impl.NdLet {
		n.Op = impl.NdSet
	}
	n.Kids = slices.Clone(n.Kids)
	for i, kid := range n.Kids {
		n.Kids[i] = withoutLets(kid)
	}
	return n
}

// checkCompiled: promise 15, of what Check calls NmDone: the unit is right, has a code for each function, and reads back as the tree.
func checkCompiled(t *testing.T, n impl.Node, u impl.Unit) {
	t.Helper()
	if !impl.UnitOk(u) || !wantUnitOk(u) {
		t.Errorf("%s: UnitOk %t, want %t: %s", treeText(n), impl.UnitOk(u), wantUnitOk(u), unitText(u))
		return
	}
	all := impl.Funs(n)
	if len(u.Codes) != len(all) {
		t.Errorf("%s: %d codes, %d functions", treeText(n), len(u.Codes), len(all))
		return
	}
	b := &backward{u: u}
	for i, f := range all {
		b.names = append(b.names, wantVars(f))
		if c := u.Codes[i]; c.Vars != len(impl.Vars(f)) {
			t.Errorf("%s: code %d has %d vars, want %d", treeText(n), i, c.Vars, len(impl.Vars(f)))
		}
	}
	met := funsMet(u, 0)
	for i, number := range met {
		if number != i || len(met) != len(all) {
			t.Errorf("%s: functions in the order %d", treeText(n), met)
			break
		}
	}
	back, ok := b.function(0, nil)
	if want := withoutLets(node(impl.NdFun, n)); !ok || treeText(back) != treeText(want) {
		t.Errorf("%s: read back as %s, %t: %s", treeText(n), treeText(back), ok, unitText(u))
	}
}

// checkUnit: what Compile tells of any tree, as the tests reckon it; and the code.
func checkUnit(t *testing.T, n impl.Node) int {
	t.Helper()
	u, code := impl.Compile(n)
	want, wantCode := wantCompile(n)
	if code != wantCode || unitText(u) != unitText(want) {
		t.Errorf("%.500s: %d\n%s\nwant %d\n%s", treeText(n), code, unitText(u), wantCode, unitText(want))
	}
	switch {
	case code == 0 && wantCode == 0:
		checkCompiled(t, n, u)
	case len(u.Codes)+len(u.Texts) > 0:
		t.Errorf("%.500s: %d and %s", treeText(n), code, unitText(u))
	}
	return code
}

// checkNoUnit: zero, and that code.
func checkNoUnit(t *testing.T, what string, n impl.Node, want int) {
	t.Helper()
	if u, code := impl.Compile(n); code != want || len(u.Codes)+len(u.Texts) > 0 {
		t.Errorf("%.300s: %d with %d codes and %d texts, want %d", what, code, len(u.Codes), len(u.Texts), want)
	}
}

// checkByHand: the codes of a program, the end of each one (undef, return) left out, and then its texts, if it has any.
func checkByHand(t *testing.T, src string, codes []string, texts ...string) {
	t.Helper()
	n := mustParse(t, src)
	u, code := impl.Compile(n)
	var want []string
	for _, line := range codes {
		if !strings.HasSuffix(line, ": ") {
			line += ", "
		}
		want = append(want, line+"undef, return")
	}
	if code != 0 || !slices.Equal(codeLines(u), want) || !slices.Equal(u.Texts, texts) {
		t.Errorf("%q: %d\n%q\n%q\nwant\n%q\n%q", src, code, codeLines(u), u.Texts, want, texts)
	}
	checkUnit(t, n)
}

func one(line string) []string { return []string{line} }

func TestP15Constants(t *testing.T) {
	ops := []int{0, impl.OpInt, impl.OpText, impl.OpUndef, impl.OpNull, impl.OpTrue, impl.OpFalse, impl.OpLoad, impl.OpStore, impl.OpGet, impl.OpPut, impl.OpObj, impl.OpCall, impl.OpReturn,
		impl.OpAdd, impl.OpSub, impl.OpMul, impl.OpLess, impl.OpSame, impl.OpNot, impl.OpJump, impl.OpElse, impl.OpPrint, impl.OpPop, impl.OpFun, impl.OpField}
	for i, op := range ops {
		if i != op {
			t.Errorf("op %d is %d", i, op)
		}
	}
	if len(ops) != len(opTable) {
		t.Error("ops:", len(ops), len(opTable))
	}
}

func TestP15Statements(t *testing.T) {
	checkByHand(t, "", one("0 0: "))
	checkByHand(t, "let x = 7;", one("0 1: int 7, store 0 0"))
	checkByHand(t, "let x = 1; x = -2;", one("0 1: int 1, store 0 0, int -2, store 0 0"))
	checkByHand(t, "let x = 1; let y = 2; y = x; x = y;", one("0 2: int 1, store 0 0, int 2, store 0 1, load 0 0, store 0 1, load 0 1, store 0 0"))
	checkByHand(t, "x = 1; let x = 2;", one("0 1: int 1, store 0 0, int 2, store 0 0"))
	checkByHand(t, "let x = x;", one("0 1: load 0 0, store 0 0"))
	checkByHand(t, "1.p = 2;", one("0 0: int 1, int 2, put 0"), "p")
	checkByHand(t, "1.proto = null;", one("0 0: int 1, null, put 0"), "proto")
	checkByHand(t, "1.p.q = 2.r;", one("0 0: int 1, get 0, int 2, get 1, put 2"), "p", "r", "q")
	checkByHand(t, "if (1) { print 2; }", one("0 0: int 1, else 4, int 2, print"))
	checkByHand(t, "if (1) { print 2; } else { print 3; }", one("0 0: int 1, else 5, int 2, print, jump 7, int 3, print"))
	checkByHand(t, "while (1) { print 2; }", one("0 0: int 1, else 5, int 2, print, jump 0"))
	checkByHand(t, "return 5;", one("0 0: int 5, return"))
	checkByHand(t, "return 5; print 6;", one("0 0: int 5, return, int 6, print"))
	checkByHand(t, "print 5;", one("0 0: int 5, print"))
	checkByHand(t, "5;", one("0 0: int 5, pop"))
	checkByHand(t, "return undefined;", one("0 0: undef, return"))
	checkByHand(t, "5; 6; print 7; 8;", one("0 0: int 5, pop, int 6, pop, int 7, print, int 8, pop"))
}

func TestP15Exprs(t *testing.T) {
	checkByHand(t, "0; -0; 1; -1; 2147483647; -2147483647;", one("0 0: int 0, pop, int 0, pop, int 1, pop, int -1, pop, int 2147483647, pop, int -2147483647, pop"))
	checkByHand(t, `"a b";`, one("0 0: text 0, pop"), "a b")
	checkByHand(t, `"";`, one("0 0: text 0, pop"), "")
	checkByHand(t, `"123456789012345678901234567890";`, one("0 0: text 0, pop"), "123456789012345678901234567890")
	checkByHand(t, "true; false; null; undefined;", one("0 0: true, pop, false, pop, null, pop, undef, pop"))
	checkByHand(t, "let a = 1; a;", one("0 1: int 1, store 0 0, load 0 0, pop"))
	checkByHand(t, "1.p; 1.proto; 1.p.q;", one("0 0: int 1, get 0, pop, int 1, get 1, pop, int 1, get 0, get 2, pop"), "p", "proto", "q")
	checkByHand(t, "1();", one("0 0: int 1, call 0, pop"))
	checkByHand(t, "1(2);", one("0 0: int 1, int 2, call 1, pop"))
	checkByHand(t, "1(2, 3, 4);", one("0 0: int 1, int 2, int 3, int 4, call 3, pop"))
	checkByHand(t, "1()(2)(3, 4);", one("0 0: int 1, call 0, int 2, call 1, int 3, int 4, call 2, pop"))
	checkByHand(t, "1(2(), 3(4(5)));", one("0 0: int 1, int 2, call 0, int 3, int 4, int 5, call 1, call 1, call 2, pop"))
	checkByHand(t, "1.m(2).n(3);", one("0 0: int 1, get 0, int 2, call 1, get 1, int 3, call 1, pop"), "m", "n")
	checkByHand(t, "1 + 2; 1 - 2; 1 * 2; 1 < 2; 1 == 2;", one("0 0: int 1, int 2, add, pop, int 1, int 2, sub, pop, int 1, int 2, mul, pop, int 1, int 2, less, pop, int 1, int 2, same, pop"))
	checkByHand(t, "1 + 2 * 3 - 4;", one("0 0: int 1, int 2, int 3, mul, add, int 4, sub, pop"))
	checkByHand(t, "1 - (2 - 3) == (4 < 5);", one("0 0: int 1, int 2, int 3, sub, sub, int 4, int 5, less, same, pop"))
	checkByHand(t, "!1; !!1; !(1 + 2);", one("0 0: int 1, not, pop, int 1, not, not, pop, int 1, int 2, add, not, pop"))
	checkByHand(t, "{};", one("0 0: obj, pop"))
	checkByHand(t, "{a: 1};", one("0 0: obj, int 1, field 0, pop"), "a")
	checkByHand(t, "{a: 1, b: 2, a: 3};", one("0 0: obj, int 1, field 0, int 2, field 1, int 3, field 0, pop"), "a", "b")
	checkByHand(t, "{a: {b: {}}, c: {d: 1}};", one("0 0: obj, obj, obj, field 0, field 1, obj, int 1, field 2, field 3, pop"), "b", "a", "d", "c")
	checkByHand(t, "function() { };", []string{"0 0: fun 1, pop", "0 0: "})
	checkByHand(t, "let f = function(a, b) { return a + b; }; print f(1, 2);",
		[]string{"0 1: fun 1, store 0 0, load 0 0, int 1, int 2, call 2, print", "2 2: load 0 0, load 0 1, add, return"})
}

func TestP15WhereJumpsGo(t *testing.T) {
	cases := map[string]string{
		"if (1) { }":                                                  "int 1, else 2",
		"if (1) { } else { }":                                         "int 1, else 3, jump 3",
		"if (1) { } else { print 2; }":                                "int 1, else 3, jump 5, int 2, print",
		"if (1) { print 2; } else { }":                                "int 1, else 5, int 2, print, jump 5",
		"while (1) { }":                                               "int 1, else 3, jump 0",
		"0; if (1) { }":                                               "int 0, pop, int 1, else 4",
		"if (1) { } 0;":                                               "int 1, else 2, int 0, pop",
		"0; if (1) { } else { }":                                      "int 0, pop, int 1, else 5, jump 5",
		"if (1) { } else { } 0;":                                      "int 1, else 3, jump 3, int 0, pop",
		"0; while (1) { }":                                            "int 0, pop, int 1, else 5, jump 2",
		"while (1) { } 0;":                                            "int 1, else 3, jump 0, int 0, pop",
		"0; if (1) { 2; } else { 3; } 4;":                             "int 0, pop, int 1, else 7, int 2, pop, jump 9, int 3, pop, int 4, pop",
		"0; if (1) { 2; } 4;":                                         "int 0, pop, int 1, else 6, int 2, pop, int 4, pop",
		"0; while (1) { 2; } 4;":                                      "int 0, pop, int 1, else 7, int 2, pop, jump 2, int 4, pop",
		"if (1) { } if (2) { }":                                       "int 1, else 2, int 2, else 4",
		"while (1) { } while (2) { }":                                 "int 1, else 3, jump 0, int 2, else 6, jump 3",
		"while (1) { while (2) { } }":                                 "int 1, else 6, int 2, else 5, jump 2, jump 0",
		"while (1) { 3; while (2) { } 4; }":                           "int 1, else 10, int 3, pop, int 2, else 7, jump 4, int 4, pop, jump 0",
		"while (1) { if (2) { } }":                                    "int 1, else 5, int 2, else 4, jump 0",
		"while (1) { if (2) { } else { } }":                           "int 1, else 6, int 2, else 5, jump 5, jump 0",
		"if (1) { while (2) { } }":                                    "int 1, else 5, int 2, else 5, jump 2",
		"if (1) { while (2) { } } else { while (3) { } }":             "int 1, else 6, int 2, else 5, jump 2, jump 9, int 3, else 9, jump 6",
		"if (1) { if (2) { } }":                                       "int 1, else 4, int 2, else 4",
		"if (1) { if (2) { } else { } }":                              "int 1, else 5, int 2, else 5, jump 5",
		"if (1) { if (2) { } } else { }":                              "int 1, else 5, int 2, else 4, jump 5",
		"if (1) { } else { if (2) { } else { if (3) { } } }":          "int 1, else 3, jump 8, int 2, else 6, jump 8, int 3, else 8",
		"if (1) { if (2) { } else { } } else { if (3) { } else { } }": "int 1, else 6, int 2, else 5, jump 5, jump 9, int 3, else 9, jump 9",
		"while (1 < 2 + 3) { }":                                       "int 1, int 2, int 3, add, less, else 7, jump 0",
		"9; while (1(2)) { 3; }":                                      "int 9, pop, int 1, int 2, call 1, else 9, int 3, pop, jump 2",
		"if (!1) { 2(3); } else { print -4; }":                        "int 1, not, else 8, int 2, int 3, call 1, pop, jump 10, int -4, print",
		"while (1) { return 2; } return 3;":                           "int 1, else 5, int 2, return, jump 0, int 3, return",
	}
	for src, want := range cases {
		checkByHand(t, src, one("0 0: "+want))
		// places are those of the function's own steps, wherever it stands
		checkByHand(t, "function(a) { "+src+" };", []string{"0 0: fun 1, pop", "1 1: " + want})
		checkByHand(t, "7; if (function() { "+src+" }) { 8; }", []string{"0 0: int 7, pop, fun 1, else 6, int 8, pop", "0 0: " + want})
	}
	checkByHand(t, "while (function() { while (1) { } }) { function() { if (2) { } else { } }; }",
		[]string{"0 0: fun 1, else 5, fun 2, pop, jump 0", "0 0: int 1, else 3, jump 0", "0 0: int 2, else 3, jump 3"})
}

// Branches of each kind within each other, three deep, with statements ahead, within and behind, or none.
func TestP15BranchesWithinBranches(t *testing.T) {
	e := numNode(1)
	about := func(s ...impl.Node) []impl.Node {
		empty, block := node(impl.NdBlock), node(impl.NdBlock, s...)
		return []impl.Node{node(impl.NdIf, e, block), node(impl.NdIf, e, block, empty), node(impl.NdIf, e, empty, block), node(impl.NdIf, e, block, block), node(impl.NdWhile, e, block)}
	}
	done := node(impl.NdDo, numNode(2))
	some := slices.Concat(about(), about(done))
	for range 2 {
		var next []impl.Node
		for _, s := range some {
			for _, list := range [][]impl.Node{{s}, {done, s}, {s, done}, {s, s}} {
				checkUnit(t, node(impl.NdBlock, list...))
				next = append(next, about(list...)...)
			}
		}
		some = next
	}
	for _, s := range some {
		checkUnit(t, node(impl.NdBlock, s))
	}
}

func TestP15WhereNamesStand(t *testing.T) {
	checkByHand(t, "let a = 1; let f = function(b) { let c = a; return function(a) { b = a + c; f = c; }; }; a = f(a);", []string{
		"0 2: int 1, store 0 0, fun 1, store 0 1, load 0 1, load 0 0, call 1, store 0 0",
		"1 2: load 1 0, store 0 1, fun 2, return",
		"1 1: load 0 0, load 1 1, add, store 1 0, load 1 1, store 2 1"})
	checkByHand(t, "function(a) { function(b) { function(c) { a = b(c); }; b; }; a; };", []string{
		"0 0: fun 1, pop", "1 1: fun 2, pop, load 0 0, pop", "1 1: fun 3, pop, load 0 0, pop", "1 1: load 1 0, load 0 0, call 1, store 2 0"})
	checkByHand(t, "let x = 1; function() { function() { x; }; let x = 1; }; function() { x; };", []string{
		"0 1: int 1, store 0 0, fun 1, pop, fun 3, pop", "0 1: fun 2, pop, int 1, store 0 0", "0 0: load 1 0, pop", "0 0: load 1 0, pop"})
	checkByHand(t, "let x = 1; function(x) { x = 2; let y = x; }; x = 3;", []string{"0 1: int 1, store 0 0, fun 1, pop, int 3, store 0 0", "1 2: int 2, store 0 0, load 0 0, store 0 1"})
	checkByHand(t, "function(p, q, r) { let s = 1; if (q) { let u = r; } else { while (u) { let v = s; } } };", []string{
		"0 0: fun 1, pop", "3 6: int 1, store 0 3, load 0 1, else 7, load 0 2, store 0 4, jump 12, load 0 4, else 12, load 0 3, store 0 5, jump 7"})
	checkByHand(t, "let f = function() { return q; }; if (1) { let q = f; }", []string{"0 2: fun 1, store 0 0, int 1, else 6, load 0 0, store 0 1", "0 0: load 1 1, return"})
	checkByHand(t, manyLets("a", 12)+"function("+manyNames("b", 12)+"){b11=a11;};a11;", []string{
		"0 12: int 1, store 0 0, int 1, store 0 1, int 1, store 0 2, int 1, store 0 3, int 1, store 0 4, int 1, store 0 5, int 1, store 0 6, int 1, store 0 7, int 1, store 0 8, int 1, store 0 9, " +
			"int 1, store 0 10, int 1, store 0 11, fun 1, pop, load 0 11, pop",
		"12 12: load 1 11, store 0 11"})
	deep := []string{"0 1: int 0, store 0 0, fun 1, pop", "1 1: fun 2, pop", "1 1: fun 3, pop", "1 1: fun 4, pop", "1 1: fun 5, pop",
		"1 1: load 5 0, pop, load 4 0, pop, load 3 0, pop, load 2 0, pop, load 1 0, pop, load 0 0, pop, int 9, store 5 0"}
	checkByHand(t, "let a=0;function(b){function(c){function(d){function(e){function(f){a;b;c;d;e;f;a=9;};};};};};", deep)
}

func TestP15CodesInOrder(t *testing.T) {
	checkByHand(t, "function(){1;}; function(){2;}; function(){3;};", []string{"0 0: fun 1, pop, fun 2, pop, fun 3, pop", "0 0: int 1, pop", "0 0: int 2, pop", "0 0: int 3, pop"})
	checkByHand(t, "function(){1; function(){2; function(){3;};}; function(){4;};}; function(){5;};", []string{
		"0 0: fun 1, pop, fun 5, pop", "0 0: int 1, pop, fun 2, pop, fun 4, pop", "0 0: int 2, pop, fun 3, pop", "0 0: int 3, pop", "0 0: int 4, pop", "0 0: int 5, pop"})
	checkByHand(t, "function(){ function(){ function(){}; }; }; function(){ function(){}; function(){}; }; function(){};", []string{
		"0 0: fun 1, pop, fun 4, pop, fun 7, pop", "0 0: fun 2, pop", "0 0: fun 3, pop", "0 0: ", "0 0: fun 5, pop, fun 6, pop", "0 0: ", "0 0: ", "0 0: "})
	checkByHand(t, "function(a){ function(){1;}; }(function(b, c){2;}, {p: function(){3;}}).q = function(){4;} + !function(){5;};", []string{
		"0 0: fun 1, fun 3, obj, fun 4, field 0, call 2, fun 5, fun 6, not, add, put 1", "1 1: fun 2, pop", "0 0: int 1, pop", "2 2: int 2, pop", "0 0: int 3, pop", "0 0: int 4, pop", "0 0: int 5, pop"}, "p", "q")
	checkByHand(t, "if (function(){1;}) { function(){2;}; } else { function(){3;}; } while (function(){4;}) { return function(){5;}; }", []string{
		"0 0: fun 1, else 5, fun 2, pop, jump 7, fun 3, pop, fun 4, else 12, fun 5, return, jump 7", "0 0: int 1, pop", "0 0: int 2, pop", "0 0: int 3, pop", "0 0: int 4, pop", "0 0: int 5, pop"})
	// the number of each of so many, side by side and within the first one
	for count := 1; count <= 40; count++ {
		n := withFuns(node(impl.NdBlock), count)
		checkUnit(t, n)
		u, _ := impl.Compile(n)
		if len(u.Codes) != count || count > 1 && u.Codes[0].Steps[2*count-4] != (impl.Step{Op: impl.OpFun, A: count - 1}) {
			t.Errorf("%d functions: %s", count, unitText(u))
		}
		if count > 1 {
			inner := node(impl.NdBlock, node(impl.NdDo, node(impl.NdFun, withFuns(node(impl.NdBlock), count-1))))
			checkUnit(t, inner)
			inner.Kids = append(inner.Kids, emptyFun())
			want := 0
			if count == 40 {
				want = 3
			}
			if code := checkUnit(t, inner); code != want {
				t.Errorf("%d functions and one more: %d", count, code)
			}
		}
	}
}

func TestP15TextsInOrder(t *testing.T) {
	checkByHand(t, `"b"; "a"; "b"; "c"; "a";`, one("0 0: text 0, pop, text 1, pop, text 0, pop, text 2, pop, text 1, pop"), "b", "a", "c")
	checkByHand(t, `"p"; 1.p; 1.p = "p"; {p: "p"};`, one("0 0: text 0, pop, int 1, get 0, pop, int 1, text 0, put 0, obj, text 0, field 0, pop"), "p")
	checkByHand(t, `1.p = "q"; "p";`, one("0 0: int 1, text 0, put 1, text 1, pop"), "q", "p")
	checkByHand(t, `"a".b.c = "d".e;`, one("0 0: text 0, get 1, text 2, get 3, put 4"), "a", "b", "d", "e", "c")
	checkByHand(t, `"a".b("c", "d".e);`, one("0 0: text 0, get 1, text 2, text 3, get 4, call 2, pop"), "a", "b", "c", "d", "e")
	checkByHand(t, `{a: "b", c: {d: "e"}};`, one("0 0: obj, text 0, field 1, obj, text 2, field 3, field 4, pop"), "b", "a", "e", "d", "c")
	checkByHand(t, `"a" + "b" * "c" == "d";`, one("0 0: text 0, text 1, text 2, mul, add, text 3, same, pop"), "a", "b", "c", "d")
	checkByHand(t, `if ("a") { "b"; } else { "c"; } while ("d") { "e"; }`, one("0 0: text 0, else 5, text 1, pop, jump 7, text 2, pop, text 3, else 12, text 4, pop, jump 7"), "a", "b", "c", "d", "e")
	checkByHand(t, `""; 1.p; "";`, one("0 0: text 0, pop, int 1, get 1, pop, text 0, pop"), "", "p")
	checkByHand(t, `"A"; "a"; "a "; " a"; "aa";`, one("0 0: text 0, pop, text 1, pop, text 2, pop, text 3, pop, text 4, pop"), "A", "a", "a ", " a", "aa")
	checkByHand(t, `"proto"; 1.proto; 1.proto = 2;`, one("0 0: text 0, pop, int 1, get 0, pop, int 1, int 2, put 0"), "proto")
	// names of variables, numbers and words are no texts
	checkByHand(t, `let x = 1; x; true; "x";`, one("0 1: int 1, store 0 0, load 0 0, pop, true, pop, text 0, pop"), "x")
	// a function's texts come behind all of the function about it, and of those with a lower number
	checkByHand(t, `function(){ "a"; function(){ "b"; }; "c"; }; "d"; function(){ "e"; }; "f";`, []string{
		"0 0: fun 1, pop, text 0, pop, fun 3, pop, text 1, pop", "0 0: text 2, pop, fun 2, pop, text 3, pop", "0 0: text 4, pop", "0 0: text 5, pop"}, "d", "f", "a", "c", "b", "e")
	checkByHand(t, `function(){ "b"; "a"; }; "a"; function(){ "c"; "b"; "a"; };`, []string{
		"0 0: fun 1, pop, text 0, pop, fun 2, pop", "0 0: text 1, pop, text 0, pop", "0 0: text 2, pop, text 1, pop, text 0, pop"}, "a", "b", "c")
	checkByHand(t, `{p: function(){ 1.q; }, r: "q"};`, []string{"0 0: obj, fun 1, field 0, text 1, field 2, pop", "0 0: int 1, get 1, pop"}, "p", "q", "r")
	checkByHand(t, `function(){ "x"; }.p = function(){ "y"; };`, []string{"0 0: fun 1, fun 2, put 0", "0 0: text 1, pop", "0 0: text 2, pop"}, "p", "x", "y")
}

// So many of a kind that the program is as great as may be.
func TestP15AsGreatAsMayBe(t *testing.T) {
	text := func(i int) impl.Node { return nodeOf(impl.NdText, "text "+strconv.Itoa(i)) }
	var call, pairs, puts, names []impl.Node
	for i := range 197 {
		call = append(call, text(i))
		names = append(names, nodeOf(impl.NdName, "x"))
	}
	n := node(impl.NdBlock, node(impl.NdDo, node(impl.NdCall, call...)))
	checkUnit(t, n)
	if u, _ := impl.Compile(n); len(u.Texts) != 197 || u.Codes[0].Steps[197] != (impl.Step{Op: impl.OpCall, A: 196}) {
		t.Error("a call:", unitText(u))
	}
	for i := range 98 {
		pairs = append(pairs, nodeOf(impl.NdPair, "p"+strconv.Itoa(i), text(i)))
	}
	checkUnit(t, node(impl.NdBlock, node(impl.NdDo, node(impl.NdObj, pairs...))))
	for i := range 66 {
		puts = append(puts, nodeOf(impl.NdPut, "p"+strconv.Itoa(i), text(2*i), text(2*i+1)))
	}
	n = node(impl.NdBlock, puts...)
	checkUnit(t, n)
	if u, _ := impl.Compile(n); len(u.Texts) != 198 || u.Texts[197] != "p65" {
		t.Error("puts:", unitText(u))
	}
	checkUnit(t, node(impl.NdBlock, nodeOf(impl.NdLet, "x", node(impl.NdCall, names[:196]...))))
	for _, first := range slices.Concat(statementsWith(text(1)), statementsAbout(node(impl.NdDo, text(2)))) {
		for _, size := range []int{198, 199, 200, 201, 202} {
			n := filledTree(first, size-6)
			for _, name := range []string{"a", "v", "g"} {
				if first.Op != impl.NdLet || first.S != name {
					n.Kids = append(n.Kids, nodeOf(impl.NdLet, name, numNode(1)))
				}
			}
			for wantSize(n) < size {
				n.Kids = append(n.Kids, node(impl.NdDo, numNode(1)))
			}
			if code := checkUnit(t, n); wantSize(n) <= 200 != (code == 0) {
				t.Errorf("%d nodes: %d", wantSize(n), code)
			}
		}
	}
	var loops []impl.Node
	for range 66 {
		loops = append(loops, node(impl.NdWhile, numNode(1), node(impl.NdBlock)))
	}
	checkUnit(t, node(impl.NdBlock, loops...))
	for i, more := range deeper() {
		for deep := 3; deep <= 22; deep++ {
			e := numNode(1)
			for wantDeep(more(e)) <= deep-2 {
				e = more(e)
			}
			for wantDeep(e) < deep-2 {
				e = node(impl.NdNot, e)
			}
			n := node(impl.NdBlock, nodeOf(impl.NdLet, "a", numNode(1)), node(impl.NdDo, e))
			if code := checkUnit(t, n); deep <= 20 != (code == 0) {
				t.Errorf("%d: %d deep: %d", i, deep, code)
			}
		}
	}
}

func TestP15OfWhatIsNotDone(t *testing.T) {
	for src, want := range map[string]int{
		"q;": 4, "q = 1;": 4, "let x = 1; let x = 2;": 2, "function(a, a) { };": 2, "function(a) { let a = 1; };": 2, "function() { q; };": 4, "function(a) { }; print a;": 4,
		manyLets("x", 13): 3, "function(" + manyNames("a", 13) + ") { };": 3, strings.Repeat("function(){};", 40): 3, "q; function(a, a) { };": 4, "function(a, a) { }; function() { q; };": 2,
	} {
		n := mustParse(t, src)
		checkNoUnit(t, src, n, want)
		checkUnit(t, n)
	}
	for what, n := range map[string]impl.Node{
		"zero": {}, "a function": node(impl.NdFun, node(impl.NdBlock)), "a number": numNode(1), "an S": nodeOf(impl.NdBlock, "x"), "an N": {Op: impl.NdBlock, N: 1},
		"a statement": node(impl.NdPrint, numNode(1)), "a block of an expr": node(impl.NdBlock, numNode(1)), "no kid": node(impl.NdBlock, node(impl.NdIf)), "too great": filledTree(node(impl.NdDo, numNode(1)), 201),
		"a number too great": node(impl.NdBlock, node(impl.NdDo, numNode(2147483648))), "a number too small": node(impl.NdBlock, node(impl.NdDo, numNode(-2147483648))),
		"a text too long": node(impl.NdBlock, node(impl.NdDo, nodeOf(impl.NdText, strings.Repeat("x", 31)))), "a wrong text": node(impl.NdBlock, node(impl.NdDo, nodeOf(impl.NdText, "\n"))),
	} {
		checkNoUnit(t, what, n, 1)
		checkUnit(t, n)
	}
	for slot := range faultSlots() {
		for _, code := range []int{2, 3, 4} {
			n := mustParse(t, faultProgram(map[string]string{slot: fault(code, slot, 0)}))
			checkNoUnit(t, slot, n, code)
			n.Kids = append(n.Kids, node(impl.NdDo))
			checkNoUnit(t, slot, n, 1)
		}
	}
	checkUnit(t, mustParse(t, faultProgram(nil)))
}

// varied: a tree with nodes of other kinds where these have the same kids, and few texts, so that they meet.
func varied(rnd *dice, n impl.Node) impl.Node {
	n.Kids = slices.Clone(n.Kids)
	for i, kid := range n.Kids {
		n.Kids[i] = varied(rnd, kid)
	}
	few := []string{"n0", "n1", "n2", "proto", "", "a text", "123456789012345678901234567890"}
	switch n.Op {
	case impl.NdNum:
		return []impl.Node{numNode(rnd.below(3) - 1), numNode(2147483647), numNode(-2147483647), node(impl.NdTrue), node(impl.NdFalse), node(impl.NdNull), node(impl.NdUndef), nodeOf(impl.NdText, few[rnd.below(7)]), nodeOf(impl.NdText, few[rnd.below(7)])}[rnd.below(9)]
	case impl.NdAdd:
		n.Op += rnd.below(5)
	case impl.NdDo, impl.NdPrint:
		n.Op = impl.NdReturn + rnd.below(3)
	case impl.NdIf:
		n.Kids = n.Kids[:2+rnd.below(len(n.Kids)-1)]
	case impl.NdGet, impl.NdPut:
		n.S = few[rnd.below(4)]
	case impl.NdCall:
		n.Kids = n.Kids[:1+rnd.below(len(n.Kids))]
	}
	return n
}

func TestP15AnyProgram(t *testing.T) {
	rnd := &dice{151}
	met, funs := [5]int{}, 0
	ops := [26]int{}
	for i := range 12000 {
		m := &namer{rnd: rnd, pool: []int{3, 8, 12}[i%3], wild: []int{15, 60, 1000, 1000}[i%4], lets: 2 + rnd.below(5)}
		n := varied(rnd, m.program(1+rnd.below(6), 3+rnd.below(7)))
		if wantSize(n) > 300 {
			continue
		}
		code := checkUnit(t, n)
		met[code]++
		if code == 0 && len(funParts(n)) > 3 {
			funs++
		}
		u, _ := impl.Compile(n)
		for _, c := range u.Codes {
			for _, s := range c.Steps {
				ops[s.Op]++
				if got, want := impl.StepText(s), wantStepText(s); got != want {
					t.Errorf("%+v: %q, want %q", s, got, want)
				}
			}
		}
	}
	if met[0] < 3000 || met[2] < 100 || met[4] < 100 || funs < 500 {
		t.Error("too few of a kind:", met, funs)
	}
	for op, count := range ops[1:] {
		if count < 200 {
			t.Errorf("too few of op %d: %d", op+1, count)
		}
	}
}

// Each kind of expr within each other one, and within each statement.
func TestP15EachWithinEach(t *testing.T) {
	lets := func(list ...impl.Node) impl.Node {
		n := node(impl.NdBlock, list...)
		declared := wantVars(n)
		for _, name := range []string{"a", "n", "v", "g"} {
			if !slices.Contains(declared, name) {
				n.Kids = append(n.Kids, nodeOf(impl.NdLet, name, numNode(1)))
			}
		}
		return n
	}
	done := 0
	check := func(list ...impl.Node) {
		if checkUnit(t, lets(list...)) == 0 {
			done++
		}
	}
	for _, atom := range atoms() {
		for _, e := range append(exprsWith(atom), atom) {
			for _, s := range statementsWith(e) {
				check(s)
			}
			for _, outer := range exprsWith(e) {
				check(node(impl.NdDo, outer))
			}
		}
	}
	for _, s := range statementsWith(numNode(-1)) {
		for _, about := range statementsAbout(s) {
			check(about)
			check(s, about)
			check(about, node(impl.NdPrint, numNode(1)))
			for _, further := range statementsAbout(about) {
				check(further)
			}
		}
	}
	if done < 10000 {
		t.Error("too few:", done)
	}
}

func TestP15SourcesAsBefore(t *testing.T) {
	for _, src := range wholePrograms() {
		checkUnit(t, mustParse(t, src))
		n := mustParse(t, src)
		for _, name := range []string{"x", "y", "z", "a", "b", "f", "h"} {
			if !slices.Contains(wantVars(n), name) {
				n.Kids = append(n.Kids, nodeOf(impl.NdLet, name, node(impl.NdNull)))
			}
		}
		if code := checkUnit(t, n); code != 0 {
			t.Errorf("%q: %d", src, code)
		}
	}
	rnd := &dice{152}
	for range 2000 {
		n := aTree(rnd, rnd.below(6), 1+rnd.below(8))
		checkUnit(t, n)
		for _, name := range []string{"a", "v", "g", "n"} {
			if !slices.Contains(wantVars(n), name) {
				n.Kids = append(n.Kids, nodeOf(impl.NdLet, name, numNode(1)))
			}
		}
		checkUnit(t, n)
	}
}

func checkStepText(t *testing.T, op, a, b int, want string) {
	t.Helper()
	if got := impl.StepText(impl.Step{Op: op, A: a, B: b}); got != want {
		t.Errorf("%d %d %d: %q, want %q", op, a, b, got, want)
	}
}

func TestP15StepText(t *testing.T) {
	for op, want := range []string{
		"", "int 5", "text 5", "undef", "null", "true", "false", "load 5 7", "store 5 7", "get 5", "put 5", "obj", "call 5", "return", "add", "sub", "mul", "less", "same", "not", "jump 5", "else 5", "print", "pop",
		"fun 5", "field 5", "",
	} {
		checkStepText(t, op, 5, 7, want)
		zero := strings.NewReplacer("5", "0", "7", "0").Replace(want)
		checkStepText(t, op, 0, 0, zero)
		checkStepText(t, op, -1, -20, strings.NewReplacer("5", "-1", "7", "-20").Replace(want))
		checkStepText(t, op, math.MaxInt, math.MinInt, strings.NewReplacer("5", "9223372036854775807", "7", "-9223372036854775808").Replace(want))
		checkStepText(t, op, math.MinInt, math.MaxInt, strings.NewReplacer("5", "-9223372036854775808", "7", "9223372036854775807").Replace(want))
		checkStepText(t, op, -2147483648, 100, strings.NewReplacer("5", "-2147483648", "7", "100").Replace(want))
	}
	for op := range opTable {
		for _, a := range edgeNumbers() {
			for _, s := range []impl.Step{{Op: op, A: a}, {Op: op, B: a}, {Op: op, A: a, B: a}, {Op: op, A: a, B: 3}, {Op: op, A: -3, B: a}} {
				checkStepText(t, s.Op, s.A, s.B, wantStepText(s))
			}
		}
	}
}

func TestP15StepTextOfNone(t *testing.T) {
	for _, op := range slices.Concat(noOps(), edgeNumbers()) {
		if op >= 1 && op <= 25 {
			continue
		}
		for _, a := range []int{0, 1, -1, math.MaxInt, math.MinInt} {
			for _, b := range []int{0, 1, -1, math.MaxInt, math.MinInt} {
				checkStepText(t, op, a, b, "")
			}
		}
	}
}

func checkUnitOk(t *testing.T, what string, u impl.Unit, want bool) {
	t.Helper()
	if got := impl.UnitOk(u); got != want {
		t.Errorf("%s: UnitOk %t, want %t", what, got, want)
	}
	if wantUnitOk(u) != want {
		t.Errorf("%s: the reckoning says %t, want %t", what, !want, want)
	}
}

// endStep: what each code ends with.
func endStep() impl.Step { return impl.Step{Op: impl.OpReturn} }

// codeOf: these steps, and one that ends it.
func codeOf(steps ...impl.Step) impl.Code {
	return impl.Code{Names: 1, Vars: 2, Steps: append(slices.Clone(steps), endStep())}
}

// unitOf: a right unit of so many codes and texts, with these steps in the code at that place.
func unitOf(codes, texts, at int, steps ...impl.Step) impl.Unit {
	var u impl.Unit
	for i := range codes {
		if i == at {
			u.Codes = append(u.Codes, codeOf(steps...))
		} else {
			u.Codes = append(u.Codes, codeOf(impl.Step{Op: impl.OpUndef}))
		}
	}
	for i := range texts {
		u.Texts = append(u.Texts, "text "+strconv.Itoa(i))
	}
	return u
}

func TestP15HowManyCodesAndTexts(t *testing.T) {
	checkUnitOk(t, "zero", impl.Unit{}, false)
	checkUnitOk(t, "empty lists", impl.Unit{Codes: []impl.Code{}, Texts: []string{}}, false)
	checkUnitOk(t, "texts alone", impl.Unit{Texts: []string{"a"}}, false)
	for codes := range 60 {
		checkUnitOk(t, strconv.Itoa(codes)+" codes", unitOf(codes, 0, 0), codes >= 1 && codes <= 40)
		checkUnitOk(t, strconv.Itoa(codes)+" codes and texts", unitOf(codes, 200, 0), codes >= 1 && codes <= 40)
		checkUnitOk(t, strconv.Itoa(codes)+" codes and texts too many", unitOf(codes, 201, 0), false)
	}
	for _, texts := range []int{0, 1, 2, 100, 199, 200, 201, 202, 400, 1000} {
		checkUnitOk(t, strconv.Itoa(texts)+" texts", unitOf(1, texts, 0), texts <= 200)
		checkUnitOk(t, strconv.Itoa(texts)+" texts and codes", unitOf(40, texts, 39), texts <= 200)
		u := unitOf(2, 0, 0)
		u.Texts = make([]string, texts)
		checkUnitOk(t, strconv.Itoa(texts)+" empty texts", u, texts <= 200)
	}
	for length := range 70 {
		for _, at := range []int{0, 1, 199} {
			u := unitOf(1, 200, 0)
			u.Texts[at] = strings.Repeat("x", length)
			checkUnitOk(t, strconv.Itoa(length)+" bytes at "+strconv.Itoa(at), u, length <= 30)
			// bytes count, and any of them may be there
			u.Texts[at] = strings.Repeat("\u00e9", length)
			checkUnitOk(t, strconv.Itoa(2*length)+" bytes at "+strconv.Itoa(at), u, length <= 15)
			u.Texts[at] = strings.Repeat("\x00", length)
			checkUnitOk(t, strconv.Itoa(length)+" noughts at "+strconv.Itoa(at), u, length <= 30)
		}
	}
	for _, text := range append(oddTexts(), "\"", "\n", "let", "a b", "proto", strings.Repeat("\xff", 30)) {
		u := unitOf(1, 3, 0)
		u.Texts[1], u.Texts[2] = text, text
		checkUnitOk(t, strconv.Quote(text), u, true)
	}
}

func TestP15HowManyNamesAndVars(t *testing.T) {
	numbers := []int{math.MinInt, math.MinInt + 1, -1000, math.MaxInt - 1, math.MaxInt, 1 << 32, -(1 << 32), 1<<32 + 1}
	for n := -20; n <= 20; n++ {
		numbers = append(numbers, n)
	}
	for _, names := range numbers {
		for _, vars := range numbers {
			for _, at := range []int{0, 1, 2} {
				u := unitOf(3, 0, 0)
				u.Codes[at].Names, u.Codes[at].Vars = names, vars
				checkUnitOk(t, strconv.Itoa(names)+" names, "+strconv.Itoa(vars)+" vars", u, names >= 0 && names <= vars && vars <= 12)
			}
		}
	}
}

func TestP15HowManySteps(t *testing.T) {
	for _, count := range []int{0, 1, 2, 3, 100, 1000, 1999, 2000, 2001, 2002, 4000, 10000} {
		for _, at := range []int{0, 1, 39} {
			u := unitOf(40, 1, 0)
			u.Codes[at].Steps = slices.Repeat([]impl.Step{endStep()}, count)
			checkUnitOk(t, strconv.Itoa(count)+" steps that end it", u, count >= 1 && count <= 2000)
			for i := range max(count-1, 0) {
				u.Codes[at].Steps[i] = impl.Step{Op: impl.OpJump, A: i}
			}
			checkUnitOk(t, strconv.Itoa(count)+" steps", u, count >= 1 && count <= 2000)
			if count > 1 {
				u.Codes[at].Steps[count-2].A = count - 1
				checkUnitOk(t, "a jump to the last of "+strconv.Itoa(count), u, count <= 2000)
				u.Codes[at].Steps[count-2].A = count
				checkUnitOk(t, "a jump behind the last of "+strconv.Itoa(count), u, false)
			}
		}
	}
	u := unitOf(40, 200, 0)
	for i := range u.Codes {
		u.Codes[i].Steps = slices.Repeat([]impl.Step{endStep()}, 2000)
	}
	checkUnitOk(t, "all as great as may be", u, true)
	u.Codes[39].Steps = append(u.Codes[39].Steps, endStep())
	checkUnitOk(t, "one step more", u, false)
	u = unitOf(2, 0, 0)
	u.Codes[1].Steps = nil
	checkUnitOk(t, "no steps", u, false)
	u.Codes[1].Steps = []impl.Step{}
	checkUnitOk(t, "an empty list of steps", u, false)
}

// Each op with each number at its least, its greatest and beyond, by hand; where nothing belongs it is 0 alone.
func TestP15NumbersOfSteps(t *testing.T) {
	type limits struct{ leastA, mostA, mostB int }
	const codes, texts, ahead = 3, 4, 5
	hand := map[int]limits{
		impl.OpInt: {-2147483648, 2147483647, 0}, impl.OpText: {0, texts - 1, 0}, impl.OpGet: {0, texts - 1, 0}, impl.OpPut: {0, texts - 1, 0}, impl.OpField: {0, texts - 1, 0},
		impl.OpLoad: {0, 40, 11}, impl.OpStore: {0, 40, 11}, impl.OpCall: {0, 200, 0}, impl.OpJump: {0, ahead + 1, 0}, impl.OpElse: {0, ahead + 1, 0}, impl.OpFun: {0, codes - 1, 0},
	}
	for op := 1; op <= 25; op++ {
		has := hand[op]
		numbers := slices.Concat(edgeNumbers(), []int{has.leastA - 1, has.leastA, has.mostA, has.mostA + 1, has.mostB, has.mostB + 1, 199, 200, 201, 39, 40, 41, 42, 10, 11, 12, 13})
		for _, a := range numbers {
			okA := a >= has.leastA && a <= has.mostA
			for _, b := range []int{0, 1, -1, has.mostB, has.mostB + 1, math.MaxInt, math.MinInt, 1 << 32} {
				steps := slices.Repeat([]impl.Step{{Op: impl.OpNull}}, ahead)
				for _, at := range []int{0, ahead} {
					turned := slices.Insert(slices.Clone(steps), at, impl.Step{Op: op, A: a, B: b})
					what := opTable[op].name + " " + strconv.Itoa(a) + " " + strconv.Itoa(b) + " at " + strconv.Itoa(at)
					checkUnitOk(t, what, unitOf(codes, texts, at%2, turned...), okA && b >= 0 && b <= has.mostB)
				}
			}
		}
	}
	for b := -3; b <= 20; b++ {
		for _, op := range []int{impl.OpLoad, impl.OpStore} {
			checkUnitOk(t, "place "+strconv.Itoa(b), unitOf(1, 0, 0, impl.Step{Op: op, A: 40, B: b}), b >= 0 && b <= 11)
		}
	}
}

// What a number names is looked for in this unit, and in this code.
func TestP15NumbersBySizes(t *testing.T) {
	for _, texts := range []int{0, 1, 2, 30, 199, 200} {
		for _, op := range []int{impl.OpText, impl.OpGet, impl.OpPut, impl.OpField} {
			for _, a := range []int{-1, 0, 1, texts - 2, texts - 1, texts, texts + 1} {
				checkUnitOk(t, "text "+strconv.Itoa(a)+" of "+strconv.Itoa(texts), unitOf(2, texts, 1, impl.Step{Op: op, A: a}), a >= 0 && a < texts)
			}
		}
	}
	for codes := 1; codes <= 40; codes++ {
		for at := range codes {
			for _, a := range []int{-1, 0, at, codes - 1, codes, codes + 1} {
				checkUnitOk(t, "code "+strconv.Itoa(a)+" of "+strconv.Itoa(codes), unitOf(codes, 3, at, impl.Step{Op: impl.OpFun, A: a}), a >= 0 && a < codes)
			}
		}
	}
	for count := range 12 {
		for at := range count {
			for a := -2; a < 15; a++ {
				for _, op := range []int{impl.OpJump, impl.OpElse} {
					steps := slices.Repeat([]impl.Step{{Op: impl.OpPop}}, count)
					steps[at] = impl.Step{Op: op, A: a}
					u := unitOf(3, 20, 1, steps...)
					u.Codes[0].Steps = slices.Repeat([]impl.Step{endStep()}, 50)
					checkUnitOk(t, "step "+strconv.Itoa(a)+" of "+strconv.Itoa(count+1), u, a >= 0 && a <= count)
				}
			}
		}
	}
}

func TestP15OpsAndEnds(t *testing.T) {
	for _, op := range noOps() {
		for _, at := range []int{0, 1} {
			checkUnitOk(t, "op "+strconv.Itoa(op), unitOf(2, 1, at, impl.Step{Op: op}), false)
			checkUnitOk(t, "op "+strconv.Itoa(op)+" ahead", unitOf(2, 1, at, impl.Step{Op: op}, endStep(), endStep()), false)
			u := unitOf(2, 1, at)
			u.Codes[at].Steps = []impl.Step{endStep(), {Op: op}}
			checkUnitOk(t, "op "+strconv.Itoa(op)+" last", u, false)
			u.Codes[at].Steps = []impl.Step{{Op: op}}
			checkUnitOk(t, "op "+strconv.Itoa(op)+" alone", u, false)
		}
	}
	for op := 1; op <= 25; op++ {
		for _, at := range []int{0, 1} {
			checkUnitOk(t, opTable[op].name, unitOf(2, 1, at, impl.Step{Op: op}), true)
			u := unitOf(2, 1, at)
			u.Codes[at].Steps = []impl.Step{{Op: op}}
			checkUnitOk(t, opTable[op].name+" alone", u, op == impl.OpReturn)
			u.Codes[at].Steps = []impl.Step{endStep(), endStep(), {Op: op}}
			checkUnitOk(t, opTable[op].name+" last", u, op == impl.OpReturn)
		}
	}
	for _, s := range []impl.Step{{Op: impl.OpReturn, A: 1}, {Op: impl.OpReturn, B: 1}, {Op: impl.OpReturn, A: -1}, {Op: impl.OpReturn, B: math.MinInt}} {
		u := unitOf(1, 0, 0)
		u.Codes[0].Steps = []impl.Step{s}
		checkUnitOk(t, "an end with a number", u, false)
	}
}

// One thing wrong at any place of any code: the rest, right, does not make up for it.
func TestP15OneThingWrong(t *testing.T) {
	for _, n := range namedPrograms(t) {
		u, code := impl.Compile(n)
		if code != 0 {
			continue
		}
		for i := range u.Codes {
			for j := range u.Codes[i].Steps {
				for _, wrong := range []impl.Step{{}, {Op: 26}, {Op: impl.OpNull, A: 1}, {Op: impl.OpLoad, B: 12}, {Op: impl.OpText, A: len(u.Texts)}, {Op: impl.OpFun, A: len(u.Codes)}, {Op: impl.OpElse, A: len(u.Codes[i].Steps)}} {
					had := u.Codes[i].Steps[j]
					u.Codes[i].Steps[j] = wrong
					checkUnitOk(t, "a step", u, false)
					u.Codes[i].Steps[j] = had
				}
			}
			u.Codes[i].Names--
			checkUnitOk(t, "names", u, u.Codes[i].Names >= 0)
			u.Codes[i].Names += 14
			checkUnitOk(t, "names", u, false)
			u.Codes[i].Names -= 13
		}
		checkUnitOk(t, "as it was", u, true)
	}
}

// anyUnit: lists of any length, some of them nil, and now and then a number that is any.
func anyUnit(rnd *dice, wild int) impl.Unit {
	numbers, texts := slices.Concat(edgeNumbers(), noOps()), append(oddTexts(), strings.Repeat("x", 30), strings.Repeat("x", 31))
	number := func(most int) int {
		if rnd.below(wild) == 0 {
			return numbers[rnd.below(len(numbers))]
		}
		return rnd.below(most)
	}
	var u impl.Unit
	for range rnd.below(4) {
		u.Texts = append(u.Texts, texts[rnd.below(len(texts))])
	}
	codes := rnd.below(4)
	for range codes {
		c := impl.Code{Vars: number(13)}
		c.Names = min(number(5), c.Vars)
		count := rnd.below(6)
		for range count {
			s := impl.Step{Op: number(25) + 1}
			if s.Op >= 1 && s.Op <= 25 && opTable[s.Op].a != "" {
				s.A = number(max(1, min(count, codes, len(u.Texts))))
			}
			if s.Op == impl.OpLoad || s.Op == impl.OpStore || rnd.below(wild) == 0 {
				s.B = number(12)
			}
			c.Steps = append(c.Steps, s)
		}
		if rnd.below(wild) > 0 {
			c.Steps = append(c.Steps, endStep())
		}
		u.Codes = append(u.Codes, c)
	}
	return u
}

func TestP21AnyUnit(t *testing.T) {
	rnd := &dice{153}
	right := 0
	for i := range 20000 {
		u := anyUnit(rnd, []int{2, 10, 50, 500}[i%4])
		want := wantUnitOk(u)
		checkUnitOk(t, unitText(u), u, want)
		if want {
			right++
		}
	}
	if right < 2000 || right > 15000 {
		t.Error("right ones:", right)
	}
}

func TestP21GreatUnits(t *testing.T) {
	const many = 1000000
	checkUnitOk(t, "many codes", impl.Unit{Codes: make([]impl.Code, many)}, false)
	checkUnitOk(t, "many right codes", impl.Unit{Codes: slices.Repeat([]impl.Code{codeOf()}, many)}, false)
	u := unitOf(2, 0, 0)
	u.Texts = make([]string, many)
	checkUnitOk(t, "many texts", u, false)
	u.Texts = []string{strings.Repeat("x", many)}
	checkUnitOk(t, "a long text", u, false)
	u.Texts = nil
	u.Codes[1].Steps = slices.Repeat([]impl.Step{endStep()}, many)
	checkUnitOk(t, "many steps", u, false)
	u.Codes[1].Steps = make([]impl.Step, many)
	checkUnitOk(t, "many of nothing", u, false)
	// one list of steps may be that of all codes
	steps := slices.Repeat([]impl.Step{endStep()}, 2000)
	u = impl.Unit{}
	for range 40 {
		u.Codes = append(u.Codes, impl.Code{Steps: steps})
	}
	checkUnitOk(t, "one list", u, true)
}

func TestP21CodeOfAnyTree(t *testing.T) {
	rnd := &dice{154}
	for range 3000 {
		checkUnit(t, anyTree(rnd, 1+rnd.below(6)))
		checkUnit(t, anyNamedTree(rnd, 1+rnd.below(5)))
		n := anyNamedTree(rnd, 1+rnd.below(4))
		n.Op, n.S, n.N = impl.NdBlock, "", 0
		checkUnit(t, n)
	}
	done := 0
	for range 4000 {
		m := &namer{rnd: rnd, pool: 6, wild: 1000, lets: 5}
		n := roomy(varied(rnd, m.program(1+rnd.below(4), 3+rnd.below(4))))
		all := nodesOf(&n)
		turnOne(rnd, all[rnd.below(len(all))])
		if checkUnit(t, n) == 0 {
			done++
		}
	}
	if done < 200 {
		t.Error("too few:", done)
	}
	for _, op := range anyOps() {
		for _, s := range append(oddTexts(), "x", "a b", "a  b", " ", strings.Repeat("x", 1<<16)) {
			checkUnit(t, impl.Node{Op: op, S: s, N: op})
			checkUnit(t, impl.Node{Op: op, S: s, Kids: []impl.Node{}})
			checkUnit(t, node(impl.NdBlock, nodeOf(op, s, nodeOf(op, s), nodeOf(impl.NdLet, s))))
		}
	}
	checkUnit(t, impl.Node{Op: impl.NdBlock, Kids: []impl.Node{}})
	checkUnit(t, node(impl.NdBlock, impl.Node{Op: impl.NdDo, Kids: []impl.Node{{Op: impl.NdNum, Kids: []impl.Node{}}}}))
}

func TestP21CodeOfGreatTrees(t *testing.T) {
	const many = 1000000
	checkNoUnit(t, "a deep one", chainOf(many), 1)
	checkNoUnit(t, "a deep one in a program", node(impl.NdBlock, node(impl.NdDo, chainOf(many))), 1)
	checkNoUnit(t, "a wide one", node(impl.NdBlock, make([]impl.Node, many)...), 1)
	funs := node(impl.NdBlock)
	for range many / 10 {
		funs = node(impl.NdBlock, node(impl.NdDo, node(impl.NdFun, funs)))
	}
	checkNoUnit(t, "deep functions", funs, 1)
	var names []string
	for i := range many / 10 {
		names = append(names, "n"+strconv.Itoa(i))
	}
	program := node(impl.NdBlock, node(impl.NdDo, nodeOf(impl.NdFun, strings.Join(names, " "), node(impl.NdBlock))))
	checkNoUnit(t, "many names", program, 3)
	row := make([]impl.Node, 1)
	row[0] = impl.Node{Op: impl.NdWhile, Kids: []impl.Node{numNode(1), {Op: impl.NdBlock, Kids: row}}}
	checkNoUnit(t, "a ring", impl.Node{Op: impl.NdBlock, Kids: row}, 1)
	f := make([]impl.Node, 1)
	f[0] = node(impl.NdDo, node(impl.NdFun, impl.Node{Op: impl.NdBlock, Kids: f}))
	checkNoUnit(t, "a ring of functions", impl.Node{Op: impl.NdBlock, Kids: f}, 1)
}

// One list may stand at many places: each of them has steps, and functions, of its own.
func TestP21CodeOfSharedLists(t *testing.T) {
	row := mustParse(t, `print function(b) { function() { b = a; }; "t"; }; while (a) { a = function() { }; }`).Kids
	block := func() impl.Node { return impl.Node{Op: impl.NdBlock, Kids: row} }
	n := node(impl.NdBlock, nodeOf(impl.NdLet, "a", numNode(1)), node(impl.NdIf, numNode(1), block(), block()), node(impl.NdDo, nodeOf(impl.NdFun, "a", block())), node(impl.NdDo, nodeOf(impl.NdFun, "c", block())))
	if code := checkUnit(t, n); code != 0 {
		t.Error("four times:", code)
	}
	u, _ := impl.Compile(n)
	if len(u.Codes) != 15 || !slices.Equal(u.Texts, []string{"t"}) {
		t.Errorf("four times: %s", unitText(u))
	}
	fun := []impl.Node{nodeOf(impl.NdFun, "x", node(impl.NdBlock, node(impl.NdReturn, nodeOf(impl.NdName, "x"))))}
	same := node(impl.NdBlock)
	for range 39 {
		same.Kids = append(same.Kids, impl.Node{Op: impl.NdDo, Kids: fun})
	}
	if code := checkUnit(t, same); code != 0 {
		t.Error("one function often:", code)
	}
	both := slices.Repeat(fun, 2)
	if code := checkUnit(t, node(impl.NdBlock, impl.Node{Op: impl.NdDo, Kids: []impl.Node{{Op: impl.NdAdd, Kids: both}}}, impl.Node{Op: impl.NdDo, Kids: both[1:]}, impl.Node{Op: impl.NdPrint, Kids: both[:1]})); code != 0 {
		t.Error("pieces:", code)
	}
}

// compiledPrograms: trees that are Check NmDone, with texts and functions.
func compiledPrograms(t *testing.T) []impl.Node {
	var out []impl.Node
	for _, src := range []string{
		"", "1;", `"a"; "b"; "c"; "d"; "e";`, `function(a) { function(b) { "x"; }; "y"; }; function(c) { "z".w = c; }; "v";`,
		"let a = 1; let f = function(b) { let c = a; return function(a) { b = a + c; }; }; if (a) { a = f(a); } else { while (f) { print {p: a.q}; } }",
	} {
		out = append(out, mustParse(t, src))
	}
	rnd := &dice{155}
	for len(out) < 80 {
		m := &namer{rnd: rnd, pool: 6, wild: 1000, lets: 4}
		if n := varied(rnd, m.program(1+rnd.below(5), 3+rnd.below(5))); wantCheck(n) == 0 {
			out = append(out, n)
		}
	}
	return out
}

// spoilUnit: all that is told, and the room behind it, is another thing.
func spoilUnit(u impl.Unit) {
	for _, c := range u.Codes {
		for i := range c.Steps[:cap(c.Steps)] {
			c.Steps[:cap(c.Steps)][i] = impl.Step{Op: -7, A: -7, B: -7}
		}
	}
	for i := range u.Texts[:cap(u.Texts)] {
		u.Texts[:cap(u.Texts)][i] = "spoilt"
	}
	for i := range u.Codes[:cap(u.Codes)] {
		u.Codes[:cap(u.Codes)][i] = impl.Code{Names: -7}
	}
}

func TestP21UnitsToldAreNew(t *testing.T) {
	for _, n := range compiledPrograms(t) {
		n = roomy(n)
		before := wholeText(n)
		first, _ := impl.Compile(n)
		want := unitText(first)
		second, _ := impl.Compile(n)
		// no two lists share, nor the room behind them
		for i, c := range first.Codes {
			had := slices.Clone(c.Steps[:cap(c.Steps)])
			for j := range c.Steps[:cap(c.Steps)] {
				c.Steps[:cap(c.Steps)][j] = impl.Step{Op: -7}
			}
			for k, other := range first.Codes {
				if k != i && slices.ContainsFunc(other.Steps[:cap(other.Steps)], func(s impl.Step) bool { return s.Op == -7 }) {
					t.Fatalf("%s: codes %d and %d share", before, i, k)
				}
			}
			copy(c.Steps[:cap(c.Steps)], had)
		}
		if unitText(first) != want {
			t.Fatal("not put back")
		}
		spoilUnit(first)
		if wholeText(n) != before {
			t.Fatalf("%s, then %s", before, wholeText(n))
		}
		if third, _ := impl.Compile(n); unitText(second) != want || unitText(third) != want {
			t.Errorf("%s: %s and %s, want %s", before, unitText(second), unitText(third), want)
		}
		for _, list := range allLists(n) {
			for i := range list {
				list[i] = spoiltNode()
			}
		}
		if unitText(second) != want {
			t.Errorf("%s: what was told is turned: %s", before, unitText(second))
		}
	}
}

// roomyUnit: a unit like it each list of which has room behind it, with something in it.
func roomyUnit(u impl.Unit) impl.Unit {
	var out impl.Unit
	for _, c := range u.Codes {
		steps := append(slices.Clone(c.Steps), impl.Step{Op: 1, A: 1}, impl.Step{Op: 2, A: 2})
		c.Steps = steps[:len(c.Steps)]
		out.Codes = append(out.Codes, c)
	}
	codes := append(out.Codes, impl.Code{Names: 3, Steps: []impl.Step{{Op: 3}}}, impl.Code{Names: 4})
	out.Codes = codes[:len(u.Codes)]
	texts := append(slices.Clone(u.Texts), "behind", "further")
	out.Texts = texts[:len(u.Texts)]
	return out
}

// wholeUnit: a unit and what is in the room behind its lists.
func wholeUnit(u impl.Unit) string {
	whole := impl.Unit{Texts: u.Texts[:cap(u.Texts)]}
	for _, c := range u.Codes[:cap(u.Codes)] {
		c.Steps = c.Steps[:cap(c.Steps)]
		whole.Codes = append(whole.Codes, c)
	}
	return strconv.Itoa(len(u.Codes)) + " " + strconv.Itoa(len(u.Texts)) + " " + unitText(whole)
}

func TestP21CodeWritesIntoNothing(t *testing.T) {
	rnd := &dice{156}
	var trees []impl.Node
	trees = append(trees, compiledPrograms(t)...)
	trees = append(trees, namedPrograms(t)...)
	for range 200 {
		trees = append(trees, anyNamedTree(rnd, 5), anyTree(rnd, 4))
	}
	var units []impl.Unit
	for _, n := range trees {
		n = roomy(n)
		before := wholeText(n)
		checkUnit(t, n)
		checkUnit(t, n)
		if wholeText(n) != before {
			t.Fatalf("%s, then %s", before, wholeText(n))
		}
		u, _ := impl.Compile(n)
		units = append(units, u)
	}
	for range 500 {
		units = append(units, anyUnit(rnd, 100))
	}
	for _, u := range units {
		u = roomyUnit(u)
		before := wholeUnit(u)
		checkUnitOk(t, before, u, wantUnitOk(u))
		checkUnitOk(t, before, u, wantUnitOk(u))
		if wholeUnit(u) != before {
			t.Fatalf("%s, then %s", before, wholeUnit(u))
		}
	}
}

func TestP21CodeAskedByManyAtOnce(t *testing.T) {
	programs := compiledPrograms(t)
	shared, _ := impl.Compile(programs[len(programs)-1])
	var all sync.WaitGroup
	for range 16 {
		all.Go(func() {
			for _, n := range programs {
				checkUnit(t, n)
			}
			checkUnitOk(t, "a unit that is shared", shared, true)
			checkStepText(t, impl.OpLoad, 1, 2, "load 1 2")
		})
	}
	all.Wait()
}
