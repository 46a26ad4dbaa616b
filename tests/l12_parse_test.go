package tests

import (
	"math"
	"slices"
	"strconv"
	"strings"
	"sync"
	"testing"

	"loop.example/g00242/impl"
)

func opNames() []string {
	return []string{"none", "block", "let", "set", "put", "if", "while", "return", "print", "do", "num", "text", "true", "false", "null", "undef",
		"name", "get", "call", "add", "sub", "mul", "less", "same", "not", "obj", "pair", "fun"}
}

// treeText: two trees are alike where their texts are.
func treeText(n impl.Node) string {
	out := "op" + strconv.Itoa(n.Op)
	if n.Op > 0 && n.Op < len(opNames()) {
		out = opNames()[n.Op]
	}
	if n.S != "" {
		out += strconv.Quote(n.S)
	}
	if n.N != 0 {
		out += "=" + strconv.Itoa(n.N)
	}
	if len(n.Kids) == 0 {
		return out
	}
	var kids []string
	for _, kid := range n.Kids {
		kids = append(kids, treeText(kid))
	}
	return out + "(" + strings.Join(kids, " ") + ")"
}

func node(op int, kids ...impl.Node) impl.Node { return impl.Node{Op: op, Kids: kids} }

func nodeOf(op int, s string, kids ...impl.Node) impl.Node {
	return impl.Node{Op: op, S: s, Kids: kids}
}

func numNode(n int) impl.Node { return impl.Node{Op: impl.NdNum, N: n} }

func wantSize(n impl.Node) int {
	size := 1
	for _, kid := range n.Kids {
		size += wantSize(kid)
	}
	return size
}

func wantDeep(n impl.Node) int {
	deep := 0
	for _, kid := range n.Kids {
		deep = max(deep, wantDeep(kid))
	}
	return deep + 1
}

// The chapter's sentences: what a thing may be, form by form. What may stand ahead of `=` is told by brackets too, since those make no node.
func chapterForms() map[string][]string {
	return map[string][]string{
		"program":    {"statements end"},
		"statements": {"", "statements statement"},
		"statement": {"let name = expr ;", "if ( expr ) block", "if ( expr ) block else block", "while ( expr ) block", "return expr ;", "print expr ;",
			"expr ;", "setname = expr ;", "setget = expr ;"},
		"setname": {"name", "( setname )"},
		"setget":  {"chain . name", "chain . proto", "( setget )"},
		"block":   {"{ statements }"},
		"expr":    {"sum", "sum < sum", "sum == sum"},
		"sum":     {"product", "sum + product", "sum - product"},
		"product": {"unary", "product * unary"},
		"unary":   {"! unary", "chain"},
		"chain":   {"atom", "chain . name", "chain . proto", "chain ( exprs )"},
		"exprs":   {"", "someexprs"}, "someexprs": {"expr", "someexprs , expr"},
		"atom": {"number", "- number", "text", "true", "false", "null", "undefined", "name", "( expr )", "{ pairs }", "function ( names ) block"},
		"pair": {"name : expr"}, "pairs": {"", "somepairs"}, "somepairs": {"pair", "somepairs , pair"},
		"names": {"", "somenames"}, "somenames": {"name", "somenames , name"},
	}
}

// form: what a thing may be; its parts in order.
type form struct {
	of    string
	parts []string
}

// begun: a form of which so many parts are there, the first one from that token on.
type begun struct{ form, parts, from int }

// reading goes through tokens by all forms at once: what can still become a program is in the last of its sets.
type reading struct {
	forms []form
	of    map[string][]int
	sets  [][]begun
}

func newReading() *reading {
	r := &reading{of: map[string][]int{}}
	for thing, texts := range chapterForms() {
		for _, text := range texts {
			r.of[thing] = append(r.of[thing], len(r.forms))
			r.forms = append(r.forms, form{thing, strings.Fields(text)})
		}
	}
	r.grow([]begun{{form: r.of["program"][0]}})
	return r
}

// again: from the first token on.
func (r *reading) again() *reading { return r.back(1) }

// back: as it was when it had so many sets.
func (r *reading) back(sets int) *reading {
	return &reading{forms: r.forms, of: r.of, sets: slices.Clip(r.sets[:sets])}
}

func (r *reading) part(b begun) string {
	if parts := r.forms[b.form].parts; b.parts < len(parts) {
		return parts[b.parts]
	}
	return ""
}

// grow: a set with all that these lead to.
func (r *reading) grow(set []begun) {
	at := len(r.sets)
	seen := map[begun]struct{}{}
	for _, b := range set {
		seen[b] = struct{}{}
	}
	put := func(b begun) {
		if _, ok := seen[b]; !ok {
			seen[b] = struct{}{}
			set = append(set, b)
		}
	}
	for i := 0; i < len(set); i++ {
		b := set[i]
		part := r.part(b)
		if part == "" && b.from < at {
			for _, outer := range r.sets[b.from] {
				if r.part(outer) == r.forms[b.form].of {
					put(begun{outer.form, outer.parts + 1, outer.from})
				}
			}
		}
		for _, f := range r.of[part] {
			put(begun{f, 0, at})
			if len(r.forms[f].parts) == 0 {
				put(begun{b.form, b.parts + 1, b.from})
			}
		}
	}
	r.sets = append(r.sets, set)
}

// take: whether such a token fits; it is gone behind then.
func (r *reading) take(kind string) bool {
	var next []begun
	for _, b := range r.sets[len(r.sets)-1] {
		if r.part(b) == kind {
			next = append(next, begun{b.form, b.parts + 1, b.from})
		}
	}
	if next != nil {
		r.grow(next)
	}
	return next != nil
}

// fitting: all that fits next.
func (r *reading) fitting() []string {
	var out []string
	for _, b := range r.sets[len(r.sets)-1] {
		if part := r.part(b); part != "" && r.of[part] == nil {
			out = append(out, part)
		}
	}
	slices.Sort(out)
	return slices.Compact(out)
}

// kindOf: what the forms call a token.
func kindOf(one impl.Token) string {
	switch {
	case one.Kind == impl.TkEnd:
		return "end"
	case one.Kind == impl.TkNum:
		return "number"
	case one.Kind == impl.TkText:
		return "text"
	case one.Kind == impl.TkName && !slices.Contains(wordTexts(), one.Text):
		return "name"
	}
	return one.Text
}

// allKinds: one of each, and how it may be written.
func allKinds() map[string]string {
	all := map[string]string{"name": "b", "number": "7", "text": `"t"`, "end": ""}
	for _, text := range append(signTexts(), wordTexts()...) {
		all[text] = text
	}
	return all
}

func sortedKinds() []string {
	var out []string
	for kind := range allKinds() {
		out = append(out, kind)
	}
	slices.Sort(out)
	return out
}

// misfitPlace: the place of the first token that does not fit; -1 where each does.
func misfitPlace(r *reading, list []impl.Token) int {
	r = r.again()
	for _, one := range list {
		if !r.take(kindOf(one)) {
			return one.At
		}
	}
	return -1
}

// cut: the tokens of a program that fits, from which trees are made by cutting them where they hang together least.
type cut []impl.Token

func (c cut) kind(i int) string {
	if i < 0 || i >= len(c) {
		return ""
	}
	return kindOf(c[i])
}

// outside: the places that stand in no brackets, brackets themselves too.
func (c cut) outside() []int {
	var out []int
	deep := 0
	for i := range c {
		kind := c.kind(i)
		if kind == ")" || kind == "}" {
			deep--
		}
		if deep == 0 {
			out = append(out, i)
		}
		if kind == "(" || kind == "{" {
			deep++
		}
	}
	return out
}

// first: the first place outside with that kind.
func (c cut) first(kind string) int {
	for _, i := range c.outside() {
		if c.kind(i) == kind {
			return i
		}
	}
	return -1
}

// between: the pieces between such signs outside.
func (c cut) between(kind string) []cut {
	var out []cut
	from := 0
	for _, i := range c.outside() {
		if c.kind(i) == kind {
			out = append(out, c[from:i])
			from = i + 1
		}
	}
	if from < len(c) {
		out = append(out, c[from:])
	}
	return out
}

// lastSign: the last one of these outside that stands between two values.
func (c cut) lastSign(signs ...string) int {
	outside := c.outside()
	for _, i := range slices.Backward(outside) {
		ahead := c.kind(i - 1)
		if slices.Contains(signs, c.kind(i)) && i > 0 && !slices.Contains([]string{"+", "-", "*", "<", "==", "!"}, ahead) {
			return i
		}
	}
	return -1
}

func (c cut) statements() []impl.Node {
	var out []impl.Node
	for len(c) > 0 {
		end := c.first(";")
		if kind := c.kind(0); kind == "if" || kind == "while" {
			end = c.first("}")
			if c.kind(end+1) == "else" {
				end += 2 + c[end+2:].first("}")
			}
		}
		out = append(out, c[:end+1].statement())
		c = c[end+1:]
	}
	return out
}

func (c cut) block() impl.Node { return node(impl.NdBlock, c[1:len(c)-1].statements()...) }

func (c cut) statement() impl.Node {
	last := len(c) - 1
	switch c.kind(0) {
	case "let":
		return nodeOf(impl.NdLet, c[1].Text, c[3:last].expr())
	case "return":
		return node(impl.NdReturn, c[1:last].expr())
	case "print":
		return node(impl.NdPrint, c[1:last].expr())
	case "while", "if":
		closing := c.first(")")
		end := c.first("}")
		kids := []impl.Node{c[2:closing].expr(), c[closing+1 : end+1].block()}
		if c.kind(0) == "while" {
			return node(impl.NdWhile, kids...)
		}
		if end < last {
			kids = append(kids, c[end+2:].block())
		}
		return node(impl.NdIf, kids...)
	}
	if equals := c.first("="); equals >= 0 {
		what := c[:equals].expr()
		value := c[equals+1 : last].expr()
		if what.Op == impl.NdName {
			return nodeOf(impl.NdSet, what.S, value)
		}
		return nodeOf(impl.NdPut, what.S, what.Kids[0], value)
	}
	return node(impl.NdDo, c[:last].expr())
}

func (c cut) expr() impl.Node {
	ops := map[string]int{"<": impl.NdLess, "==": impl.NdSame, "+": impl.NdAdd, "-": impl.NdSub, "*": impl.NdMul}
	for _, signs := range [][]string{{"<", "=="}, {"+", "-"}, {"*"}} {
		if i := c.lastSign(signs...); i >= 0 {
			return node(ops[c.kind(i)], c[:i].expr(), c[i+1:].expr())
		}
	}
	if c.kind(0) == "!" {
		return node(impl.NdNot, c[1:].expr())
	}
	return c.chain()
}

func (c cut) chain() impl.Node {
	last := len(c) - 1
	if last > 0 && c.kind(last-1) == "." {
		return nodeOf(impl.NdGet, c[last].Text, c[:last-1].chain())
	}
	outside := c.outside()
	if c.kind(last) != ")" {
		return c.atom()
	}
	open := outside[len(outside)-2]
	if open == 0 {
		return c[1:last].expr()
	}
	kids := []impl.Node{c[:open].chain()}
	for _, one := range c[open+1 : last].between(",") {
		kids = append(kids, one.expr())
	}
	return node(impl.NdCall, kids...)
}

func (c cut) atom() impl.Node {
	ops := map[string]int{"true": impl.NdTrue, "false": impl.NdFalse, "null": impl.NdNull, "undefined": impl.NdUndef}
	last := len(c) - 1
	switch kind := c.kind(0); kind {
	case "number":
		return numNode(c[0].N)
	case "-":
		return numNode(-c[1].N)
	case "text":
		return nodeOf(impl.NdText, c[0].Text)
	case "name":
		return nodeOf(impl.NdName, c[0].Text)
	case "{":
		var pairs []impl.Node
		for _, one := range c[1:last].between(",") {
			pairs = append(pairs, nodeOf(impl.NdPair, one[0].Text, one[2:].expr()))
		}
		return node(impl.NdObj, pairs...)
	case "function":
		closing := c.first(")")
		var names []string
		for _, one := range c[2:closing] {
			if one.Text != "," {
				names = append(names, one.Text)
			}
		}
		return nodeOf(impl.NdFun, strings.Join(names, " "), c[closing+1:].block())
	default:
		return node(ops[kind])
	}
}

// wantParse asks for tokens, then for what fits over the whole source, and only then how great it is.
func wantParse(r *reading, src string) (impl.Node, int) {
	list, bad := wantTokens(src)
	if bad < 0 {
		bad = misfitPlace(r, list)
	}
	if bad >= 0 {
		return impl.Node{}, bad
	}
	tree := node(impl.NdBlock, cut(list[:len(list)-1]).statements()...)
	if wantSize(tree) > 200 || wantDeep(tree) > 20 {
		return impl.Node{}, 0
	}
	return tree, -1
}

func checkParse(t *testing.T, src string, want impl.Node, wantBad int) {
	t.Helper()
	got, bad := impl.Parse(src)
	if bad != wantBad || treeText(got) != treeText(want) {
		t.Errorf("%.200q (%d bytes): %s %d, want %s %d", src, len(src), treeText(got), bad, treeText(want), wantBad)
	}
}

func checkAsForms(t *testing.T, r *reading, src string) {
	t.Helper()
	want, bad := wantParse(r, src)
	checkParse(t, src, want, bad)
}

// checkStatements: the texts of the trees of its statements.
func checkStatements(t *testing.T, src string, want ...string) {
	t.Helper()
	program := "block"
	if len(want) > 0 {
		program += "(" + strings.Join(want, " ") + ")"
	}
	got, bad := impl.Parse(src)
	if bad != -1 || treeText(got) != program {
		t.Errorf("%q: %s %d, want %s", src, treeText(got), bad, program)
	}
}

func checkExpr(t *testing.T, src string, want string) {
	t.Helper()
	checkStatements(t, src+";", "do("+want+")")
	checkStatements(t, "print "+src+";", "print("+want+")")
	checkStatements(t, "let v = ("+src+");", `let"v"(`+want+")")
}

func checkRefused(t *testing.T, src string, at int) {
	t.Helper()
	checkParse(t, src, impl.Node{}, at)
}

func TestP12Constants(t *testing.T) {
	if impl.MaxNodes != 200 || impl.MaxDeep != 20 {
		t.Error(impl.MaxNodes, impl.MaxDeep)
	}
	ops := []int{impl.NdBlock, impl.NdLet, impl.NdSet, impl.NdPut, impl.NdIf, impl.NdWhile, impl.NdReturn, impl.NdPrint, impl.NdDo,
		impl.NdNum, impl.NdText, impl.NdTrue, impl.NdFalse, impl.NdNull, impl.NdUndef, impl.NdName, impl.NdGet, impl.NdCall,
		impl.NdAdd, impl.NdSub, impl.NdMul, impl.NdLess, impl.NdSame, impl.NdNot, impl.NdObj, impl.NdPair, impl.NdFun}
	for i, op := range ops {
		if op != i+1 {
			t.Error(opNames()[i+1], op)
		}
	}
}

func TestP12Statements(t *testing.T) {
	checkStatements(t, "")
	checkStatements(t, " \n ")
	checkStatements(t, "let x = 1;", `let"x"(num=1)`)
	checkStatements(t, "let\nx=\ny ;", `let"x"(name"y")`)
	checkStatements(t, "x = 1;", `set"x"(num=1)`)
	checkStatements(t, "o.p = 1;", `put"p"(name"o" num=1)`)
	checkStatements(t, "o.proto = null;", `put"proto"(name"o" null)`)
	checkStatements(t, "a.b.c = d.e;", `put"c"(get"b"(name"a") get"e"(name"d"))`)
	checkStatements(t, "f(1).p = 2;", `put"p"(call(name"f" num=1) num=2)`)
	checkStatements(t, "{}.p = 2;", `put"p"(obj num=2)`)
	checkStatements(t, "(a + b).p = 2;", `put"p"(add(name"a" name"b") num=2)`)
	checkStatements(t, "(a.b) = 2;", `put"b"(name"a" num=2)`)
	checkStatements(t, "(((a).b)) = 2;", `put"b"(name"a" num=2)`)
	checkStatements(t, "((x)) = 2;", `set"x"(num=2)`)
	checkStatements(t, "if (x) { }", `if(name"x" block)`)
	checkStatements(t, "if (x) { } else { }", `if(name"x" block block)`)
	checkStatements(t, "if (x) { 1; } else { 2; 3; }", `if(name"x" block(do(num=1)) block(do(num=2) do(num=3)))`)
	checkStatements(t, "if (x) { if (y) { } } else { }", `if(name"x" block(if(name"y" block)) block)`)
	checkStatements(t, "if (x) { if (y) { } else { } }", `if(name"x" block(if(name"y" block block)))`)
	checkStatements(t, "if (x) { } if (y) { } else { }", `if(name"x" block)`, `if(name"y" block block)`)
	checkStatements(t, "while (x) { }", `while(name"x" block)`)
	checkStatements(t, "while (x) { x = 0; }", `while(name"x" block(set"x"(num)))`)
	checkStatements(t, "return 1;", "return(num=1)")
	checkStatements(t, "print 1;", "print(num=1)")
	checkStatements(t, "x;", `do(name"x")`)
	checkStatements(t, "{ };", "do(obj)")
	checkStatements(t, "function() { };", "do(fun(block))")
	checkStatements(t, "print 1; print 2; return 3; print 4;", "print(num=1)", "print(num=2)", "return(num=3)", "print(num=4)")
	checkStatements(t, "return {};", "return(obj)")
	checkStatements(t, "print(1);", "print(num=1)")
	checkStatements(t, "print(1)(2);", "print(call(num=1 num=2))")
	checkStatements(t, "return(1)+2;", "return(add(num=1 num=2))")
}

func TestP12Exprs(t *testing.T) {
	checkExpr(t, "0", "num")
	checkExpr(t, "7", "num=7")
	checkExpr(t, "2147483647", "num=2147483647")
	checkExpr(t, "-2147483647", "num=-2147483647")
	checkExpr(t, "-0", "num")
	checkExpr(t, "- \n 5", "num=-5")
	checkExpr(t, `""`, "text")
	checkExpr(t, `"a b"`, `text"a b"`)
	checkExpr(t, `"true"`, `text"true"`)
	checkExpr(t, `"("`, `text"("`)
	checkExpr(t, "true", "true")
	checkExpr(t, "false", "false")
	checkExpr(t, "null", "null")
	checkExpr(t, "undefined", "undef")
	checkExpr(t, "abcdefghijkl", `name"abcdefghijkl"`)
	checkExpr(t, "lets", `name"lets"`)
	checkExpr(t, "(x)", `name"x"`)
	checkExpr(t, "(((1)))", "num=1")
	checkExpr(t, "{}", "obj")
	checkExpr(t, "{a: 1}", `obj(pair"a"(num=1))`)
	checkExpr(t, "{b: 1, a: {c: x}, b: -2}", `obj(pair"b"(num=1) pair"a"(obj(pair"c"(name"x"))) pair"b"(num=-2))`)
	checkExpr(t, "{a: 1 < 2, b: x == y}", `obj(pair"a"(less(num=1 num=2)) pair"b"(same(name"x" name"y")))`)
	checkExpr(t, "function() {}", "fun(block)")
	checkExpr(t, "function(a) { return a; }", `fun"a"(block(return(name"a")))`)
	checkExpr(t, "function(c, b, a, b) { }", `fun"c b a b"(block)`)
	checkExpr(t, "function(a) { return function(b) { }; }", `fun"a"(block(return(fun"b"(block))))`)
	checkExpr(t, "a.b", `get"b"(name"a")`)
	checkExpr(t, "a.proto.proto.b", `get"b"(get"proto"(get"proto"(name"a")))`)
	checkExpr(t, "f()", `call(name"f")`)
	checkExpr(t, "f(1)", `call(name"f" num=1)`)
	checkExpr(t, "f(1, x, {}, 2 < 3)", `call(name"f" num=1 name"x" obj less(num=2 num=3))`)
	checkExpr(t, "f(g(h()))", `call(name"f" call(name"g" call(name"h")))`)
	checkExpr(t, "function(a) { }(1)", `call(fun"a"(block) num=1)`)
	checkExpr(t, "{f: 1}.f", `get"f"(obj(pair"f"(num=1)))`)
	checkExpr(t, "1.a", `get"a"(num=1)`)
	checkExpr(t, "-1.a", `get"a"(num=-1)`)
	checkExpr(t, "-1(2)", "call(num=-1 num=2)")
	checkExpr(t, `"t".a`, `get"a"(text"t")`)
	checkExpr(t, "null.a()", `call(get"a"(null))`)
	checkExpr(t, "!x", `not(name"x")`)
	checkExpr(t, "!!!x", `not(not(not(name"x")))`)
	checkExpr(t, "!-1", "not(num=-1)")
}

func TestP12WhichSignFirst(t *testing.T) {
	checkExpr(t, "1 + 2 + 3", "add(add(num=1 num=2) num=3)")
	checkExpr(t, "1 - 2 - 3", "sub(sub(num=1 num=2) num=3)")
	checkExpr(t, "1 - 2 + 3 - 4", "sub(add(sub(num=1 num=2) num=3) num=4)")
	checkExpr(t, "1 - (2 - 3)", "sub(num=1 sub(num=2 num=3))")
	checkExpr(t, "1 * 2 * 3", "mul(mul(num=1 num=2) num=3)")
	checkExpr(t, "1 * (2 * 3)", "mul(num=1 mul(num=2 num=3))")
	checkExpr(t, "1 + 2 * 3", "add(num=1 mul(num=2 num=3))")
	checkExpr(t, "1 * 2 + 3", "add(mul(num=1 num=2) num=3)")
	checkExpr(t, "1 * 2 + 3 * 4 - 5", "sub(add(mul(num=1 num=2) mul(num=3 num=4)) num=5)")
	checkExpr(t, "(1 + 2) * 3", "mul(add(num=1 num=2) num=3)")
	checkExpr(t, "1 * (2 + 3)", "mul(num=1 add(num=2 num=3))")
	checkExpr(t, "!a * b", `mul(not(name"a") name"b")`)
	checkExpr(t, "a * !b", `mul(name"a" not(name"b"))`)
	checkExpr(t, "!a + !b", `add(not(name"a") not(name"b"))`)
	checkExpr(t, "!(a * b)", `not(mul(name"a" name"b"))`)
	checkExpr(t, "!a < b", `less(not(name"a") name"b")`)
	checkExpr(t, "!(a < b)", `not(less(name"a" name"b"))`)
	checkExpr(t, "!a.b", `not(get"b"(name"a"))`)
	checkExpr(t, "!f(1)", `not(call(name"f" num=1))`)
	checkExpr(t, "(!a).b", `get"b"(not(name"a"))`)
	checkExpr(t, "a.b(1).c(2)(3)", `call(call(get"c"(call(get"b"(name"a") num=1)) num=2) num=3)`)
	checkExpr(t, "a + b.c", `add(name"a" get"c"(name"b"))`)
	checkExpr(t, "(a + b).c", `get"c"(add(name"a" name"b"))`)
	checkExpr(t, "a * f(1 + 2)", `mul(name"a" call(name"f" add(num=1 num=2)))`)
	checkExpr(t, "1 + 2 < 3 * 4", "less(add(num=1 num=2) mul(num=3 num=4))")
	checkExpr(t, "1 == 2 + 3", "same(num=1 add(num=2 num=3))")
	checkExpr(t, "1 < (2 < 3)", "less(num=1 less(num=2 num=3))")
	checkExpr(t, "(1 == 2) == 3", "same(same(num=1 num=2) num=3)")
	checkExpr(t, "(1 < 2) == (3 < 4)", "same(less(num=1 num=2) less(num=3 num=4))")
	checkExpr(t, "1-2", "sub(num=1 num=2)")
	checkExpr(t, "1 -2", "sub(num=1 num=2)")
	checkExpr(t, "1--2", "sub(num=1 num=-2)")
	checkExpr(t, "-1-2", "sub(num=-1 num=2)")
	checkExpr(t, "-1 - -2 - 3", "sub(sub(num=-1 num=-2) num=3)")
	checkExpr(t, "a-1", `sub(name"a" num=1)`)
	checkExpr(t, "a*-1", `mul(name"a" num=-1)`)
	checkExpr(t, "a+-1*2", `add(name"a" mul(num=-1 num=2))`)
	checkExpr(t, "a - b * c", `sub(name"a" mul(name"b" name"c"))`)
	checkExpr(t, "f(-1, 2-3)", `call(name"f" num=-1 sub(num=2 num=3))`)
	checkExpr(t, "a < -1", `less(name"a" num=-1)`)
	checkExpr(t, "f()-1", `sub(call(name"f") num=1)`)
	checkExpr(t, "{}-1", "sub(obj num=1)")
	checkStatements(t, "x = y == z;", `set"x"(same(name"y" name"z"))`)
	checkStatements(t, "x = -1;", `set"x"(num=-1)`)
	checkStatements(t, "x == y;", `do(same(name"x" name"y"))`)
	checkStatements(t, "return -1;", "return(num=-1)")
}

// level: which exprs of the chapter a node may stand for without brackets: 0 any, 1 a sum, 2 a product, 3 a unary, 4 one with points and calls behind it, 5 an atom.
func level(n impl.Node) int {
	switch n.Op {
	case impl.NdLess, impl.NdSame:
		return 0
	case impl.NdAdd, impl.NdSub:
		return 1
	case impl.NdMul:
		return 2
	case impl.NdNot:
		return 3
	case impl.NdGet, impl.NdCall:
		return 4
	}
	return 5
}

// written: a tree as a source, with the brackets that it needs, and some more.
type written struct {
	more func() bool
}

func (w written) at(least int, n impl.Node) string {
	text := w.expr(n)
	if level(n) < least || w.more() {
		return "(" + text + ")"
	}
	return text
}

func (w written) list(kids []impl.Node) string {
	var parts []string
	for _, kid := range kids {
		if kid.Op == impl.NdPair {
			parts = append(parts, kid.S+": "+w.at(0, kid.Kids[0]))
		} else {
			parts = append(parts, w.at(0, kid))
		}
	}
	return strings.Join(parts, ", ")
}

func (w written) two(left int, sign string, right int, n impl.Node) string {
	return w.at(left, n.Kids[0]) + " " + sign + " " + w.at(right, n.Kids[1])
}

func (w written) expr(n impl.Node) string {
	switch n.Op {
	case impl.NdNum:
		return strconv.Itoa(n.N)
	case impl.NdText:
		return `"` + n.S + `"`
	case impl.NdName:
		return n.S
	case impl.NdGet:
		return w.at(4, n.Kids[0]) + "." + n.S
	case impl.NdCall:
		return w.at(4, n.Kids[0]) + "(" + w.list(n.Kids[1:]) + ")"
	case impl.NdAdd:
		return w.two(1, "+", 2, n)
	case impl.NdSub:
		return w.two(1, "-", 2, n)
	case impl.NdMul:
		return w.two(2, "*", 3, n)
	case impl.NdLess:
		return w.two(1, "<", 1, n)
	case impl.NdSame:
		return w.two(1, "==", 1, n)
	case impl.NdNot:
		return "!" + w.at(3, n.Kids[0])
	case impl.NdObj:
		return "{" + w.list(n.Kids) + "}"
	case impl.NdFun:
		return "function(" + strings.ReplaceAll(n.S, " ", ", ") + ") " + w.block(n.Kids[0])
	}
	return map[int]string{impl.NdTrue: "true", impl.NdFalse: "false", impl.NdNull: "null", impl.NdUndef: "undefined"}[n.Op]
}

func (w written) block(n impl.Node) string { return "{ " + w.statements(n) + "}" }

func (w written) statements(n impl.Node) string {
	out := ""
	for _, kid := range n.Kids {
		out += w.statement(kid) + " "
	}
	return out
}

func (w written) statement(n impl.Node) string {
	switch n.Op {
	case impl.NdLet:
		return "let " + n.S + " = " + w.at(0, n.Kids[0]) + ";"
	case impl.NdSet:
		return w.at(0, nodeOf(impl.NdName, n.S)) + " = " + w.at(0, n.Kids[0]) + ";"
	case impl.NdPut:
		return w.at(0, nodeOf(impl.NdGet, n.S, n.Kids[0])) + " = " + w.at(0, n.Kids[1]) + ";"
	case impl.NdIf:
		out := "if (" + w.at(0, n.Kids[0]) + ") " + w.block(n.Kids[1])
		if len(n.Kids) > 2 {
			out += " else " + w.block(n.Kids[2])
		}
		return out
	case impl.NdWhile:
		return "while (" + w.at(0, n.Kids[0]) + ") " + w.block(n.Kids[1])
	case impl.NdReturn:
		return "return " + w.at(0, n.Kids[0]) + ";"
	case impl.NdPrint:
		return "print " + w.at(0, n.Kids[0]) + ";"
	}
	return w.at(0, n.Kids[0]) + ";"
}

func never() bool { return false }

func always() bool { return true }

// sources: what a program may look like: with the least brackets and with all of them, with blanks and without needless ones.
func sources(program impl.Node) []string {
	least := written{never}.statements(program)
	most := written{always}.statements(program)
	return []string{least, most, spaced(least, "\n"), spaced(least, ""), spaced(most, "")}
}

// spaced: with that between all tokens, and a blank where they would be another one else.
func spaced(src string, between string) string {
	list, _ := wantTokens(src)
	var out strings.Builder
	for i, one := range list {
		if i > 0 {
			out.WriteString(between)
		}
		if i > 0 && between == "" && oneWhenClose(list[i-1], one) {
			out.WriteByte(' ')
		}
		out.WriteString(tokenBytes(one))
	}
	return out.String()
}

// closeUp: with no needless blank.
func closeUp(src string) string { return spaced(src, "") }

func checkProgram(t *testing.T, program impl.Node) {
	t.Helper()
	for _, src := range sources(program) {
		checkParse(t, src, program, -1)
	}
}

// exprsWith: one of each kind of expr, with that one at each place where an expr belongs.
func exprsWith(e impl.Node) []impl.Node {
	a, b := nodeOf(impl.NdName, "a"), numNode(-3)
	out := []impl.Node{
		nodeOf(impl.NdGet, "p", e), nodeOf(impl.NdGet, "proto", e), node(impl.NdNot, e),
		node(impl.NdCall, e), node(impl.NdCall, e, a), node(impl.NdCall, a, e), node(impl.NdCall, a, e, b, e), node(impl.NdCall, a, b, e),
		node(impl.NdObj, nodeOf(impl.NdPair, "k", e)), node(impl.NdObj, nodeOf(impl.NdPair, "k", a), nodeOf(impl.NdPair, "m", e), nodeOf(impl.NdPair, "k", b)),
	}
	for _, op := range []int{impl.NdAdd, impl.NdSub, impl.NdMul, impl.NdLess, impl.NdSame} {
		out = append(out, node(op, e, a), node(op, a, e), node(op, e, b), node(op, e, e))
	}
	for i, s := range statementsWith(e) {
		out = append(out, nodeOf(impl.NdFun, []string{"", "x", "x y"}[i%3], node(impl.NdBlock, s)))
	}
	return out
}

// statementsWith: one of each kind of statement, with that one at each place where an expr belongs.
func statementsWith(e impl.Node) []impl.Node {
	a := nodeOf(impl.NdName, "a")
	empty := node(impl.NdBlock)
	return []impl.Node{
		nodeOf(impl.NdLet, "v", e), nodeOf(impl.NdSet, "v", e), nodeOf(impl.NdPut, "v", a, e), nodeOf(impl.NdPut, "proto", e, a),
		node(impl.NdIf, e, empty), node(impl.NdIf, e, empty, empty), node(impl.NdWhile, e, empty), node(impl.NdReturn, e), node(impl.NdPrint, e), node(impl.NdDo, e),
	}
}

// statementsAbout: one of each kind that has a block, with that statement in it.
func statementsAbout(s impl.Node) []impl.Node {
	a, empty, block := nodeOf(impl.NdName, "a"), node(impl.NdBlock), node(impl.NdBlock, s)
	both := node(impl.NdBlock, s, s)
	return []impl.Node{
		node(impl.NdIf, a, block), node(impl.NdIf, a, block, empty), node(impl.NdIf, a, empty, block), node(impl.NdIf, a, both, both),
		node(impl.NdWhile, a, block), node(impl.NdWhile, a, both), node(impl.NdDo, nodeOf(impl.NdFun, "q", both)), nodeOf(impl.NdLet, "g", node(impl.NdFun, block)),
	}
}

func atoms() []impl.Node {
	return []impl.Node{
		numNode(0), numNode(5), numNode(-5), numNode(2147483647), numNode(-2147483647), node(impl.NdText), nodeOf(impl.NdText, "a ; b"),
		node(impl.NdTrue), node(impl.NdFalse), node(impl.NdNull), node(impl.NdUndef), nodeOf(impl.NdName, "n"),
		node(impl.NdObj), node(impl.NdFun, node(impl.NdBlock)), nodeOf(impl.NdFun, "a b c", node(impl.NdBlock)),
	}
}

func TestP12EachWithinEach(t *testing.T) {
	var inner []impl.Node
	for _, atom := range atoms() {
		inner = append(inner, atom)
		inner = append(inner, exprsWith(atom)...)
	}
	for _, e := range inner {
		for _, s := range statementsWith(e) {
			checkProgram(t, node(impl.NdBlock, s))
		}
		for _, outer := range exprsWith(e) {
			checkProgram(t, node(impl.NdBlock, node(impl.NdDo, outer)))
		}
	}
	var within []impl.Node
	for _, s := range statementsWith(numNode(-1)) {
		for _, about := range statementsAbout(s) {
			within = append(within, about)
			checkProgram(t, node(impl.NdBlock, s, about, s))
		}
	}
	for _, s := range within {
		for _, about := range statementsAbout(s) {
			checkProgram(t, node(impl.NdBlock, about))
		}
	}
}

func TestP12SignsWithinSigns(t *testing.T) {
	leaf := []impl.Node{nodeOf(impl.NdName, "x"), numNode(-7)}
	ops := []int{impl.NdAdd, impl.NdSub, impl.NdMul, impl.NdLess, impl.NdSame, impl.NdNot, impl.NdGet, impl.NdCall}
	var all func(deep int) []impl.Node
	all = func(deep int) []impl.Node {
		out := slices.Clone(leaf)
		if deep == 0 {
			return out
		}
		for _, op := range ops {
			for _, e := range all(deep - 1) {
				switch op {
				case impl.NdNot:
					out = append(out, node(op, e))
				case impl.NdGet:
					out = append(out, nodeOf(op, "p", e))
				default:
					out = append(out, node(op, e, leaf[0]), node(op, leaf[1], e), node(op, e, e))
				}
			}
		}
		return out
	}
	for _, e := range all(3) {
		program := node(impl.NdBlock, node(impl.NdPrint, e))
		checkParse(t, written{never}.statements(program), program, -1)
	}
	for _, e := range all(2) {
		checkProgram(t, node(impl.NdBlock, node(impl.NdDo, e)))
	}
}

// aTree: any program of that many statements, whose exprs are not deeper than that.
func aTree(rnd *dice, statements, deep int) impl.Node {
	n := node(impl.NdBlock)
	for range statements {
		n.Kids = append(n.Kids, aStatement(rnd, deep))
	}
	return n
}

func aStatement(rnd *dice, deep int) impl.Node {
	e := anExpr(rnd, deep)
	if rnd.below(3) == 0 && deep > 2 {
		about := statementsAbout(aStatement(rnd, deep-2))
		return about[rnd.below(len(about))]
	}
	some := statementsWith(e)
	return some[rnd.below(len(some))]
}

func anExpr(rnd *dice, deep int) impl.Node {
	if deep <= 1 || rnd.below(4) == 0 {
		some := atoms()
		return some[rnd.below(len(some))]
	}
	e := anExpr(rnd, deep-1)
	if rnd.below(3) == 0 {
		ops := []int{impl.NdAdd, impl.NdSub, impl.NdMul, impl.NdLess, impl.NdSame, impl.NdCall}
		return node(ops[rnd.below(len(ops))], e, anExpr(rnd, deep-1))
	}
	some := exprsWith(e)
	return some[rnd.below(len(some))]
}

func TestP12AnyProgram(t *testing.T) {
	rnd := &dice{12}
	right, great, longer := 0, 0, 0
	for range 4000 {
		program := aTree(rnd, rnd.below(6), 1+rnd.below(11))
		for _, w := range []written{{never}, {func() bool { return rnd.below(5) == 0 }}} {
			src := w.statements(program)
			if len(src) <= impl.MaxSource {
				src = closeUp(src)
			}
			switch {
			case len(src) > impl.MaxSource:
				longer++
				checkRefused(t, src, 0)
			case wantSize(program) > 200 || wantDeep(program) > 20:
				great++
				checkRefused(t, src, 0)
			default:
				right++
				checkParse(t, src, program, -1)
			}
		}
	}
	if right < 2000 || great < 10 || longer < 10 {
		t.Error("too few of a kind:", right, great, longer)
	}
}

func TestP12AlikeInTheSameText(t *testing.T) {
	checkStatements(t, `print "(";`, `print(text"(")`)
	checkRefused(t, `print "(" 1;`, 10)
	checkRefused(t, `"let" x = 1;`, 6)
	checkRefused(t, `f"("1);`, 1)
	checkRefused(t, `a."b";`, 2)
	checkRefused(t, `{"a": 1};`, 1)
	checkRefused(t, `function("a") {};`, 9)
	checkRefused(t, `if "(" x ) {}`, 3)
	checkRefused(t, `if (x) {} "else" {}`, 17)
	checkStatements(t, `if (x) {} "else";`, `if(name"x" block)`, `do(text"else")`)
}

func TestP12WhatDoesNotFit(t *testing.T) {
	cases := map[string]int{
		"let": 3, "let x": 5, "let x =": 7, "let x = 1": 9, "let = 1;": 4, "let 1 = 1;": 4, "let x 1;": 6, "let x == 1;": 6, "let x = ;": 8, "let x = 1 }": 10,
		"let x.y = 1;": 5, "let (x) = 1;": 4, "let x;": 5, "let x, y = 1;": 5, "let x = let y = 1;": 8, "let x = y = 1;": 10,
		"if": 2, "if (": 4, "if (x": 5, "if (x)": 6, "if (x) {": 8, "if x": 3, "if () {}": 4, "if (x, y) {}": 5, "if (x) y;": 7, "if (x) if (y) {}": 7,
		"if (x) {} else": 14, "if (x) {} else {": 16, "if (x) {} else y;": 15, "if (x) {} else if (y) {}": 15, "if (x) {} else {} else {}": 18, "if (x) {};": 9, "if (x = 1) {}": 6,
		"else {}": 0, "{} else {}": 3,
		"while": 5, "while (": 7, "while (x": 8, "while (x)": 9, "while (x) {": 11, "while x": 6, "while () {}": 7, "while (x) y;": 10, "while (x) {} else {}": 13, "while (x) {};": 12,
		"return": 6, "return;": 6, "return 1": 8, "return 1 2;": 9, "return x = 1;": 9, "return return 1;": 7, "return }": 7,
		"print": 5, "print;": 5, "print 1": 7, "print 1, 2;": 7, "print x = 1;": 8, "print let;": 6, "print print;": 6,
		";": 0, "x": 1, "x;;": 2, "x y;": 2, "x = 1": 5, "x = ;": 4, "x =": 3, "x = y = 1;": 6, "x = = 1;": 4, "x == ;": 5,
		"o.p = 1": 7, "o.p =": 5, "o.p = ;": 6, "o.p = q = 1;": 8, "o.p.q = r.s = 1;": 12, "o. = 1;": 3,
		"1 = 2;": 2, "-1 = 2;": 3, `"a" = 2;`: 4, "true = 1;": 5, "null = 1;": 5, "f() = 1;": 4, "o.p() = 1;": 6, "{} = 1;": 3, "function() {} = 1;": 14,
		"!x = 1;": 3, "x + y = 1;": 6, "x * y = 1;": 6, "x - 1 = 1;": 6, "x < y = 1;": 6, "x == y = 1;": 7, "o.p + 1 = 2;": 8, "!o.p = 2;": 5, "(x + y) = 1;": 8, "(f()) = 1;": 6,
		"{ x; }": 3, "{ x = 1; }": 4, "}": 0, "x; }": 3, ")": 0, "x);": 1, "(x": 2, "(x;": 2, "()": 1, "() ;": 1, "((x);": 4, "(x));": 3, "(x, y);": 2, "(x = 1);": 3,
		"1 < 2 < 3;": 6, "1 == 2 == 3;": 7, "1 < 2 == 3;": 6, "1 == 2 < 3;": 7, "(1 < 2 < 3);": 7, "f(1 < 2 < 3);": 8, "1 <": 3, "< 1;": 0, "== 1;": 0, "1 < < 2;": 4, "1 <= 2;": 3, "1 === 2;": 4,
		"1 +": 3, "1 + ;": 4, "+ 1;": 0, "1 + + 2;": 4, "1 + * 2;": 4, "1 *": 3, "1 * ;": 4, "* 1;": 0, "1 * * 2;": 4, "1 * + 2;": 4, "1 * - x;": 6,
		"-": 1, "- ;": 2, "-x;": 1, "--1;": 1, "-(1);": 1, "-!1;": 1, `-"a";`: 1, "1 - - - 2;": 6, "1 -": 3, "1 - - x;": 6, "-true;": 1,
		"!": 1, "! ;": 2, "!!": 2, "1 ! 2;": 2, "x !y;": 2, "!!= 1;": 2, "!*1;": 1,
		"a.": 2, "a.;": 2, "a.1;": 2, "a.(b);": 2, "a..b;": 2, "a.b.;": 4, ".b;": 0, "a.!b;": 2, "a.b c;": 4, "1 2;": 2, "1 x;": 2, "1x;": 1, "a.{};": 2,
		"f(": 2, "f(1": 3, "f(,);": 2, "f(1,);": 4, "f(1,": 4, "f(,1);": 2, "f(1 2);": 4, "f(1;": 3, "f(1,,2);": 4, "f(x = 1);": 4, "f(x: 1);": 3, "f(let);": 2, "f(1}": 3,
		"{": 1, "{a": 2, "{a:": 3, "{a: 1": 5, "{a: 1,": 6, "{a: 1,};": 6, "{,};": 1, "{a};": 2, "{a 1};": 3, "{a = 1};": 3, "{a: };": 4, "{1: 2};": 1, "{a: 1 b: 2};": 6, "{a: 1; b: 2};": 5, "{a: 1, 2};": 7, "{{}};": 1, "{a: 1)": 5, "{a.b: 1};": 2, "{(a): 1};": 1,
		"function": 8, "function(": 9, "function(a": 10, "function(a)": 11, "function() {": 12, "function {}": 9, "function f() {};": 9, "function(a,) {};": 11, "function(,) {};": 9, "function(a b) {};": 11,
		"function(1) {};": 9, "function(a, 1) {};": 12, "function() x;": 11, "function() {}": 13, "function() { x };": 15, "function(a.b) {};": 10, "function((a)) {};": 9, "function(a = 1) {};": 11, "function() {} x;": 14,
		"#": 0, "x = #": 4, "x; 00": 3, "let = 3; #": 9, ") ) abcdefghijklm": 4, `x = "`: 4, "f(1,); 2147483648": 7,
	}
	for src, at := range cases {
		checkRefused(t, src, at)
		checkRefused(t, "\n "+src, at+2)
		checkRefused(t, "print 1;"+src, at+8)
		if place := "while (a) { "; !strings.HasPrefix(src, "}") && src != "x; }" {
			checkRefused(t, place+src, at+len(place))
		}
	}
}

// TestP12EndDoesNotFit: cut off anywhere, a program that does not end there is told at its end.
func TestP12EndDoesNotFit(t *testing.T) {
	r := newReading()
	for _, src := range wholePrograms() {
		list, _ := wantTokens(src)
		for _, one := range list {
			short := src[:one.At]
			want := len(short)
			if fits := r.again(); fitsWhole(fits, short) {
				want = -1
			}
			if _, bad := impl.Parse(short); bad != want {
				t.Errorf("%q: %d, want %d", short, bad, want)
			}
			if _, bad := impl.Parse(short + " \n"); want >= 0 && bad != want+2 {
				t.Errorf("%q and blanks: %d, want %d", short, bad, want+2)
			}
		}
	}
}

func fitsWhole(r *reading, src string) bool {
	list, bad := wantTokens(src)
	return bad < 0 && misfitPlace(r, list) < 0
}

// wholePrograms: every kind of statement and expr is in one of them.
func wholePrograms() []string {
	return []string{
		"let x = 1; x = -2; x.a = 3; x.proto = null;",
		"if (x < 1) { print 2; } else { return y; } if (a) { }",
		"while (!x) { x = x + 1 - 2 * y; if (z) { } } (1);",
		"f(); f(1, -2).g(h(3))(4).proto.k = {a: 1, b: {}};",
		"let f = function(a, b) { return a == b; }; function() { };",
		`print "a;" + "" ; print (true) ; return undefined * null;`,
		"{a: function(x) { let y = {b: (false)}; }}.a(1 < 2, 3 == 4);",
		"(x) = (y.z); ((x.y)) = 1; (x + y).z = !(!1 - -1);",
	}
}

// TestP12EachTokenEverywhere: in whole programs each token is taken out, each one of any kind is laid ahead of it and in its place.
func TestP12EachTokenEverywhere(t *testing.T) {
	r := newReading()
	all := allKinds()
	for _, src := range wholePrograms() {
		checkAsForms(t, r, src)
		list, _ := wantTokens(src)
		for _, one := range list {
			ahead, behind := src[:one.At], src[one.At+len(tokenBytes(one)):]
			checkAsForms(t, r, ahead+" "+behind)
			checkAsForms(t, r, ahead+tokenBytes(one)+" "+tokenBytes(one)+behind)
			for _, kind := range sortedKinds() {
				checkAsForms(t, r, ahead+" "+all[kind]+" "+behind)
				checkAsForms(t, r, ahead+" "+all[kind]+" "+src[one.At:])
			}
		}
	}
}

// TestP12AllShort: all that can begin a program, by few tokens, with each token of any kind behind it.
func TestP12AllShort(t *testing.T) {
	kinds := sortedKinds()
	all := allKinds()
	count := 0
	var grow func(r *reading, src string, more int)
	grow = func(r *reading, src string, more int) {
		fits := r.fitting()
		for _, kind := range kinds {
			next := src + all[kind]
			if !slices.Contains(fits, kind) {
				checkRefused(t, next, len(src))
				count++
				continue
			}
			if kind == "end" {
				list, _ := wantTokens(src)
				checkParse(t, src, node(impl.NdBlock, cut(list[:len(list)-1]).statements()...), -1)
				continue
			}
			if more > 0 {
				longer := r.back(len(r.sets))
				longer.take(kind)
				grow(longer, next+" ", more-1)
			}
		}
	}
	grow(newReading(), "", 4)
	if count < 10000 {
		t.Error("too few:", count)
	}
}

// aWalk: tokens that fit one behind the other, as far as the walk goes, and the reading there; the more there are, the sooner what is open is ended.
func aWalk(rnd *dice, r *reading, most int) ([]string, *reading) {
	enders := []string{"end", ";", ")", "}", "name"}
	r = r.again()
	var kinds []string
	for len(kinds) < most {
		fits := r.fitting()
		kind := fits[rnd.below(len(fits))]
		if rnd.below(most) < len(kinds) {
			for _, ender := range slices.Backward(enders) {
				if slices.Contains(fits, ender) {
					kind = ender
				}
			}
		}
		if kind == "end" {
			if rnd.below(most) < len(kinds) {
				break
			}
			continue
		}
		r.take(kind)
		kinds = append(kinds, kind)
	}
	return kinds, r
}

// tokenText: one token of that kind.
func tokenText(rnd *dice, kind string) string {
	switch kind {
	case "name":
		return []string{"x", "y1", "abcdefghijkl", "lets", "Proto", "o"}[rnd.below(6)]
	case "number":
		return strconv.Itoa([]int{0, 1, 12, 2147483647, rnd.below(1000)}[rnd.below(5)])
	case "text":
		return []string{`""`, `"a b"`, `"let"`, `"("`, `";"`}[rnd.below(5)]
	}
	return allKinds()[kind]
}

func joined(rnd *dice, kinds []string) string {
	var out strings.Builder
	out.WriteString(someBlanks(rnd, 0))
	for _, kind := range kinds {
		out.WriteString(tokenText(rnd, kind))
		out.WriteString(someBlanks(rnd, 1))
	}
	return out.String()
}

func TestP12AnyWalk(t *testing.T) {
	rnd := &dice{13}
	r := newReading()
	kinds := sortedKinds()
	whole := 0
	for range 1500 {
		walk, there := aWalk(rnd, r, 4+rnd.below(60))
		src := joined(rnd, walk)
		if slices.Contains(there.fitting(), "end") {
			whole++
		}
		checkAsForms(t, r, src)
		for range 4 {
			kind := kinds[rnd.below(len(kinds))]
			rest, _ := aWalk(rnd, r, 10)
			checkAsForms(t, r, src+tokenText(rnd, kind)+" "+joined(rnd, rest))
		}
	}
	if whole < 300 {
		t.Error("too few whole programs:", whole)
	}
}

func TestP12WordsAreNoNames(t *testing.T) {
	for _, word := range wordTexts() {
		checkRefused(t, "let "+word+" = 1;", 4)
		checkRefused(t, "{"+word+": 1};", 1)
		checkRefused(t, "{a: 1, "+word+": 1};", 7)
		checkRefused(t, "function("+word+") {};", 9)
		checkRefused(t, "function(a, "+word+") {};", 12)
		checkRefused(t, word+" = 1;", setPlace(word))
		if slices.Contains([]string{"true", "false", "null", "undefined", "function"}, word) {
			continue
		}
		checkRefused(t, "print "+word+";", 6)
		checkRefused(t, "x = "+word+";", 4)
		checkRefused(t, "x + "+word+";", 4)
		checkRefused(t, "f("+word+");", 2)
		checkRefused(t, "!"+word+";", 1)
		checkRefused(t, "("+word+");", 1)
	}
	for _, word := range wordTexts() {
		if word == "proto" {
			continue
		}
		checkRefused(t, "a."+word+";", 2)
		checkRefused(t, "a.b."+word+" = 1;", 4)
	}
	for _, name := range []string{"lets", "ifs", "Let", "IF", "elsee", "tru", "nul", "undef", "protos", "prot", "Proto", "functions", "printx", "whil", "returns"} {
		checkStatements(t, "let "+name+" = "+name+";", "let"+strconv.Quote(name)+"(name"+strconv.Quote(name)+")")
		checkStatements(t, name+"."+name+" = {"+name+": 1};", "put"+strconv.Quote(name)+"(name"+strconv.Quote(name)+" obj(pair"+strconv.Quote(name)+"(num=1)))")
		checkStatements(t, "function("+name+") {};", "do(fun"+strconv.Quote(name)+"(block))")
	}
	checkRefused(t, "proto;", 0)
	checkRefused(t, "proto.a;", 0)
	checkStatements(t, "a.proto;", `do(get"proto"(name"a"))`)
	checkStatements(t, "a.proto().proto = b.proto;", `put"proto"(call(get"proto"(name"a")) get"proto"(name"b"))`)
}

// setPlace: what does not fit where a word stands ahead of `= 1;`.
func setPlace(word string) int {
	switch word {
	case "else", "proto":
		return 0
	}
	return len(word) + 1 // what each of the others has behind it is no `=`
}

// nested: an expr within so many of a kind, and how many nodes each of these is deep.
type nested struct {
	name        string
	ahead, back string
	levels      int
}

func nesting() []nested {
	return []nested{
		{"not", "!", "", 1}, {"not in brackets", "!(", ")", 1},
		{"left of a sum", "(", ")+1", 1}, {"right of a sum", "1+(", ")", 1}, {"left of a difference", "(", ")-1", 1}, {"right of a difference", "1-(", ")", 1},
		{"left of a product", "(", ")*1", 1}, {"right of a product", "1*(", ")", 1}, {"left of <", "(", ")<1", 1}, {"right of <", "1<(", ")", 1},
		{"left of ==", "(", ")==1", 1}, {"right of ==", "1==(", ")", 1}, {"point", "(", ").p", 1}, {"called", "(", ")()", 1}, {"handed in", "f(", ")", 1},
		{"handed in last", "f(1,2,", ")", 1}, {"object", "{a:", "}", 2}, {"second pair", "{a:1,b:", "}", 2},
		{"function", "function(){", ";}", 3}, {"returned", "function(a){return ", ";}", 3}, {"let", "function(){let a=", ";}", 3}, {"set", "function(){a=", ";}", 3},
		{"put", "function(){a.b=", ";}", 3}, {"put into", "function(){(", ").b=1;}", 3}, {"printed", "function(){print ", ";}", 3},
		{"asked", "function(){if(", "){}}", 3}, {"asked again", "function(){while(", "){}}", 3},
		{"block", "function(){if(1){", ";}}", 5}, {"else", "function(){if(1){}else{", ";}}", 5}, {"while", "function(){while(1){", ";}}", 5},
	}
}

// deepProgram: a program of that depth, by as many of that kind as can be, the rest by `!`.
func (n nested) deepProgram(deep int) string {
	rest := deep - 3 // the program's block, what is done, a number
	times := rest / n.levels
	return strings.Repeat(n.ahead, times) + strings.Repeat("!", rest%n.levels) + "1" + strings.Repeat(n.back, times) + ";"
}

func TestP12HowDeep(t *testing.T) {
	for _, n := range nesting() {
		for deep := 3; deep <= 40; deep++ {
			src := n.deepProgram(deep)
			if len(src) > impl.MaxSource {
				break
			}
			got, bad := impl.Parse(src)
			if deep > 20 {
				if bad != 0 || treeText(got) != treeText(impl.Node{}) {
					t.Errorf("%s, %d: %s %d", n.name, deep, treeText(got), bad)
				}
				continue
			}
			if bad != -1 || impl.Deep(got) != deep {
				t.Errorf("%s, %d: %s %d, %d deep", n.name, deep, treeText(got), bad, impl.Deep(got))
			}
		}
	}
}

func TestP12HowDeepOutOfBrackets(t *testing.T) {
	rows := map[string]func(n int) string{
		"sum":        func(n int) string { return "1" + strings.Repeat("+1", n) + ";" },
		"difference": func(n int) string { return "1" + strings.Repeat("-1", n) + ";" },
		"product":    func(n int) string { return "1" + strings.Repeat("*1", n) + ";" },
		"points":     func(n int) string { return "a" + strings.Repeat(".b", n) + ";" },
		"calls":      func(n int) string { return "a" + strings.Repeat("()", n) + ";" },
		"both":       func(n int) string { return "a" + strings.Repeat(".b()", n/2) + strings.Repeat(".b", n%2) + ";" },
		"not":        func(n int) string { return strings.Repeat("!", n) + "1;" },
		"printed":    func(n int) string { return "print " + strings.Repeat("!", n) + "1;" },
		"condition":  func(n int) string { return "if(" + strings.Repeat("!", n) + "1){}" },
		"put":        func(n int) string { return "a" + strings.Repeat(".b", n) + ".c=1;" },
		"value":      func(n int) string { return "a.c=" + strings.Repeat("!", n) + "1;" },
	}
	for name, row := range rows {
		for n := range 120 {
			_, bad := impl.Parse(row(n))
			if want := map[bool]int{true: -1, false: 0}[n+3 <= 20]; bad != want {
				t.Errorf("%s of %d: %d, want %d", name, n, bad, want)
			}
		}
	}
	for n := range 60 {
		src := strings.Repeat("while(1){", n) + strings.Repeat("}", n)
		if _, bad := impl.Parse(src); bad != map[bool]int{true: -1, false: 0}[1+2*n <= 20] {
			t.Errorf("%d whiles: %d", n, bad)
		}
		last := strings.Repeat("if(1){", n) + "if(!1){}" + strings.Repeat("}", n)
		if _, bad := impl.Parse(last); bad != map[bool]int{true: -1, false: 0}[4+2*n <= 20] {
			t.Errorf("%d ifs: %d", n, bad)
		}
	}
}

// Brackets make no node: however many there are, it is as deep as without.
func TestP12Brackets(t *testing.T) {
	for n := range 397 {
		src := strings.Repeat("(", n) + "-1" + strings.Repeat(")", n) + ";"
		checkParse(t, src, node(impl.NdBlock, node(impl.NdDo, numNode(-1))), -1)
		checkRefused(t, src[:n+2]+strings.Repeat(")", n)+");", 2*n+2)
		checkRefused(t, strings.Repeat("(", n+1)+"1"+strings.Repeat(")", n)+";", 2*n+2)
		checkRefused(t, strings.Repeat("(", n+1), n+1)
	}
	for n := range 195 {
		open, back := strings.Repeat("(", n), strings.Repeat(")", n)
		checkStatements(t, open+"x"+back+"="+open+"y"+back+";", `set"x"(name"y")`)
		checkStatements(t, open+"x.y"+back+"=1;", `put"y"(name"x" num=1)`)
	}
}

// filled: statements up to that many nodes in all, behind a program that has so many.
func filled(src string, has, want int) string {
	if (want-has)%2 == 1 {
		src, has = src+"!1;", has+3
	}
	return src + strings.Repeat("1;", (want-has)/2)
}

// TestP12HowMany: parts and how many nodes each of them has, as often as there is room for them.
func TestP12HowMany(t *testing.T) {
	parts := map[string]int{
		"1;": 2, "!1;": 3, "!!!!1;": 6, "-1;": 2, `"";`: 2, "(1);": 2, "x=1;": 2, "let a=1;": 2, "a.b=1;": 3, "a.b;": 3, "f();": 3, "f(1,2);": 5, "f(1,2,3,4,5);": 8,
		"1+2;": 4, "1+2*3-4;": 8, "1<2;": 4, "1==2;": 4, "{};": 2, "{a:1};": 4, "{a:1,b:2};": 6, "function(){};": 3, "function(a,b){};": 3, "function(){1;2;};": 7,
		"if(1){}": 3, "if(1){}else{}": 4, "if(1){2;}else{3;}": 8, "while(1){}": 3, "while(1){2;3;}": 7, "return 1;": 2, "print 1;": 2, "true;": 2, "null;": 2,
	}
	for part, nodes := range parts {
		for _, want := range []int{198, 199, 200, 201, 202, 203, 250} {
			times := min((want-4)/nodes, 400/len(part))
			src := filled(strings.Repeat(part, times), 1+times*nodes, want)
			got, bad := impl.Parse(src)
			if want > 200 {
				checkRefused(t, src, 0)
			} else if bad != -1 || impl.Size(got) != want || wantSize(got) != want {
				t.Errorf("%q, %d times: %d, %d nodes, want %d", part, times, bad, impl.Size(got), want)
			}
		}
	}
	lists := map[string]func(n int) string{
		"handed in":     func(n int) string { return "f(1" + strings.Repeat(",1", n-5) + ");" }, // a block, what is done, a call, f, and each
		"in a block":    func(n int) string { return "while(1){" + filled("", 4, n) + "}" },
		"in a function": func(n int) string { return "function(){" + filled("", 4, n) + "};" },
		"pairs": func(n int) string { // each has two nodes: where one is over, it is a `!`
			return "{a:" + strings.Repeat("!", 1-n%2) + "1" + strings.Repeat(",a:1", (n-5)/2) + "};"
		},
	}
	for name, list := range lists {
		for n := 190; n <= 210; n++ {
			src := list(n)
			got, bad := impl.Parse(src)
			if n > 200 {
				checkRefused(t, src, 0)
			} else if bad != -1 || impl.Size(got) != n {
				t.Errorf("%s of %d: %d, %d nodes", name, n, bad, impl.Size(got))
			}
		}
	}
}

// greatPrograms: each is too great, and the place from which on it is.
func greatPrograms() map[string]int {
	return map[string]int{
		strings.Repeat("1;", 130): 198,
		strings.Repeat("let a=1;", 70) + "!1*(2+3)*4;" + strings.Repeat("x;", 40): 621,
		"f(1" + strings.Repeat(",1", 250) + ");":                                  394,
		strings.Repeat("!", 100) + "1;":                                           18,
		"1" + strings.Repeat("+1", 60) + ";":                                      35,
		strings.Repeat("while(1){", 30) + "1;" + strings.Repeat("}", 30):          89,
		strings.Repeat("{a:", 40) + "1" + strings.Repeat("}", 40) + ";":           27,
		strings.Repeat("function(){", 25) + strings.Repeat("};", 25):              66,
		strings.Repeat("f(", 90) + strings.Repeat(")", 90) + ";":                  36,
	}
}

// TestP12GreatAndWrong: a token that does not fit counts first, wherever it stands.
func TestP12GreatAndWrong(t *testing.T) {
	r := newReading()
	for src, from := range greatPrograms() {
		checkRefused(t, src, 0)
		list, _ := wantTokens(src)
		ahead, behind := 0, 0
		for i, one := range list {
			if i%7 != 0 && one.Kind != impl.TkEnd {
				continue
			}
			for _, bad := range []string{" =", " let x x", " ==", " else", " 5 5 5"} {
				wrong := src[:one.At] + bad + " " + src[one.At:]
				want, place := wantParse(r, wrong)
				checkParse(t, wrong, want, place)
				switch {
				case place > 0 && place < from:
					ahead++
				case place > from:
					behind++
				}
			}
			for _, none := range []string{"#", "00", "abcdefghijklm", "\x00"} {
				checkRefused(t, src[:one.At]+" "+none+" "+src[one.At:], one.At+1)
			}
			checkRefused(t, "x = ;"+src[:one.At]+" #", one.At+6)
		}
		if ahead == 0 || behind == 0 {
			t.Errorf("%.40q: %d ahead, %d behind", src, ahead, behind)
		}
		checkRefused(t, src+")", len(src))
		checkRefused(t, src+"x", len(src)+1)
		checkRefused(t, "x; )"+src, 3)
		checkRefused(t, "let 1 "+src, 4)
	}
}

// TestP12TooLong: where Tokens tells a place, that one is told, and nothing else is asked.
func TestP12TooLong(t *testing.T) {
	for _, src := range []string{"", "x;", "let = 3;", ")", "1;1;1;", strings.Repeat("!", 400)} {
		for _, size := range []int{801, 802, 5000} {
			checkRefused(t, src+strings.Repeat(" ", size-len(src)), 0)
			checkRefused(t, src+strings.Repeat("\n", size-len(src)-1)+"#", size-1)
			checkRefused(t, src+strings.Repeat(" ", size-len(src)-2)+"00", size-2)
		}
	}
	checkParse(t, "x;"+strings.Repeat(" ", 798), node(impl.NdBlock, node(impl.NdDo, nodeOf(impl.NdName, "x"))), -1)
	checkParse(t, strings.Repeat(" ", 798)+"x;", node(impl.NdBlock, node(impl.NdDo, nodeOf(impl.NdName, "x"))), -1)
	checkRefused(t, strings.Repeat(" ", 799)+"x;", 0)
	checkRefused(t, "x"+strings.Repeat(" ", 799), 800)
	checkRefused(t, strings.Repeat(" ", 799)+")", 799)
	checkRefused(t, ";"+strings.Repeat(" ", 798)+"#", 799)
}

func checkExtent(t *testing.T, what string, n impl.Node, size, deep int) {
	t.Helper()
	if gotSize, gotDeep := impl.Size(n), impl.Deep(n); gotSize != size || gotDeep != deep {
		t.Errorf("%s: %d nodes, %d deep, want %d, %d", what, gotSize, gotDeep, size, deep)
	}
}

// checkParts: a tree is as great as its parts and one more, and as deep as the deepest of them and one more; each of its parts too.
func checkParts(t *testing.T, n impl.Node) {
	t.Helper()
	size, deep := 1, 0
	for _, kid := range n.Kids {
		checkParts(t, kid)
		size += impl.Size(kid)
		deep = max(deep, impl.Deep(kid))
	}
	if impl.Size(n) != size || impl.Deep(n) != deep+1 {
		t.Errorf("%s: %d nodes, %d deep, want %d, %d", treeText(n), impl.Size(n), impl.Deep(n), size, deep+1)
	}
}

// anyOps: ops of programs and others.
func anyOps() []int {
	ops := []int{math.MinInt, -1, 0, 28, 29, 1000, math.MaxInt}
	for op := impl.NdBlock; op <= impl.NdFun; op++ {
		ops = append(ops, op)
	}
	return ops
}

// anyTree: any op with any texts, numbers and kids, of at most that depth.
func anyTree(rnd *dice, deep int) impl.Node {
	ops, numbers, texts := anyOps(), edgeNumbers(), oddTexts()
	n := impl.Node{Op: ops[rnd.below(len(ops))], N: numbers[rnd.below(len(numbers))], S: texts[rnd.below(len(texts))]}
	if deep > 1 {
		for range rnd.below(4) {
			n.Kids = append(n.Kids, anyTree(rnd, deep-1))
		}
	}
	return n
}

func TestP12AsGreatAsItsParts(t *testing.T) {
	checkExtent(t, "zero", impl.Node{}, 1, 1)
	for _, op := range anyOps() {
		for _, s := range []string{"", "x", "a b", strings.Repeat("long ", 1000)} {
			leaf := impl.Node{Op: op, S: s, N: -op}
			checkExtent(t, "no kids", leaf, 1, 1)
			empty := impl.Node{Op: op, S: s, N: op, Kids: []impl.Node{}}
			checkExtent(t, "an empty list", empty, 1, 1)
			one := impl.Node{Op: op, S: s, Kids: []impl.Node{leaf}}
			checkExtent(t, "one kid", one, 2, 2)
			for many := range 30 {
				n := impl.Node{Op: op, S: s}
				for range many {
					n.Kids = append(n.Kids, one)
				}
				checkExtent(t, "many kids", n, 1+2*many, 1+min(many, 1)*2)
				n.Kids = append(n.Kids, leaf, empty, impl.Node{Kids: []impl.Node{one, leaf}})
				checkExtent(t, "kids of all sorts", n, 1+2*many+6, 4)
				checkParts(t, n)
			}
		}
	}
	// where the deepest one stands makes no odds
	deepest := node(impl.NdNot, node(impl.NdNot, node(impl.NdNot, numNode(1))))
	for at := range 7 {
		n := node(impl.NdCall)
		for i := range 7 {
			if i == at {
				n.Kids = append(n.Kids, deepest)
			} else {
				n.Kids = append(n.Kids, node(impl.NdNot, numNode(i)))
			}
		}
		checkExtent(t, "the deepest one", n, 1+4+6*2, 5)
	}
	rnd := &dice{17}
	for range 1500 {
		n := anyTree(rnd, 1+rnd.below(6))
		checkExtent(t, "any", n, wantSize(n), wantDeep(n))
		checkParts(t, n)
	}
}

func TestP12ExtentOfPrograms(t *testing.T) {
	sizes := map[string][2]int{
		"": {1, 1}, "x;": {3, 3}, "x = 1;": {3, 3}, "a.b = 1;": {4, 3}, "let x = 1 + 2 * 3;": {7, 5}, "if (x) { } else { y; }": {7, 5},
		"f(1, 2, 3);": {7, 4}, "{a: 1, b: !2};": {8, 6}, "function(a, b, c) { return a; };": {6, 6}, "(((((1)))));": {3, 3},
	}
	for src, want := range sizes {
		n, bad := impl.Parse(src)
		if bad != -1 {
			t.Error(src, bad)
		}
		checkExtent(t, src, n, want[0], want[1])
	}
	rnd := &dice{18}
	for range 500 {
		program := aTree(rnd, rnd.below(4), 1+rnd.below(5))
		got, bad := impl.Parse(written{never}.statements(program))
		if bad == -1 {
			checkExtent(t, "a program", got, wantSize(program), wantDeep(program))
			checkParts(t, got)
		}
	}
}

// chainOf: so many within each other.
func chainOf(deep int) impl.Node {
	n := impl.Node{Op: impl.NdNot}
	for range deep - 1 {
		n = node(impl.NdNot, n)
	}
	return n
}

func TestP21GreatTrees(t *testing.T) {
	const many = 1000000
	checkExtent(t, "a deep one", chainOf(many), many, many)
	wide := node(impl.NdBlock, make([]impl.Node, many)...)
	checkExtent(t, "a wide one", wide, many+1, 2)
	checkExtent(t, "both", node(impl.NdBlock, wide, chainOf(1000), impl.Node{}), many+1+1000+1+1, 1001)
	comb := impl.Node{}
	for range many / 10 {
		comb = node(impl.NdAdd, numNode(1), comb, numNode(2))
	}
	checkExtent(t, "a comb", comb, 3*many/10+1, many/10+1)
}

// One list may stand at many places: there are as many nodes as one meets, not as many as lie there.
func TestP21SharedLists(t *testing.T) {
	n := impl.Node{}
	for deep := 2; deep <= 62; deep++ {
		n = node(impl.NdAdd, n, n)
		checkExtent(t, "twice each", n, 1<<deep-1, deep)
	}
	for range 200 {
		n = node(impl.NdAdd, n, n)
		if impl.Size(n) != math.MaxInt {
			t.Fatal("more than a number can tell:", impl.Size(n))
		}
	}
	if impl.Deep(n) != 262 {
		t.Error(impl.Deep(n))
	}
	row := []impl.Node{numNode(1), node(impl.NdNot, numNode(2)), chainOf(5)}
	checkExtent(t, "pieces of a row", impl.Node{Kids: []impl.Node{{Kids: row[:1]}, {Kids: row[:2]}, {Kids: row}, {Kids: row[1:]}, {Kids: row[:0]}}}, 1+2+4+9+8+1, 7)
	row[0] = impl.Node{Kids: row[1:]}
	checkExtent(t, "a row that leads on in itself", impl.Node{Kids: row}, 1+8+2+5, 7)
}

// A list that stands within itself makes no tree: it has no end, but the call has.
func TestP21NodesWithinThemselves(t *testing.T) {
	for length := 1; length <= 5; length++ {
		ring := make([][]impl.Node, length)
		for i := range ring {
			ring[i] = make([]impl.Node, 3)
		}
		for i := range ring {
			ring[i][1] = impl.Node{Op: impl.NdBlock, Kids: ring[(i+1)%length]}
		}
		for _, n := range []impl.Node{{Kids: ring[0]}, ring[0][1], {Kids: []impl.Node{{}, {Kids: ring[length-1]}, {}}}} {
			checkExtent(t, "a ring", n, math.MaxInt, math.MaxInt)
		}
		ring[length-1][1] = impl.Node{}
		checkExtent(t, "a ring that is open", impl.Node{Kids: ring[0]}, 1+3*length, 1+length)
	}
}

func TestP21ParseOfAnyBytes(t *testing.T) {
	r := newReading()
	rnd := &dice{19}
	for range 3000 {
		src := make([]byte, rnd.below(50))
		for i := range src {
			src[i] = byte(rnd.below(256))
			if rnd.below(30) > 0 {
				const usual = "ab1 (){},;:.=+-*<!\"\n"
				src[i] = usual[rnd.below(len(usual))]
			}
		}
		checkAsForms(t, r, string(src))
	}
	kinds := sortedKinds()
	for range 3000 {
		var some []string
		for range rnd.below(12) {
			some = append(some, kinds[rnd.below(len(kinds))])
		}
		checkAsForms(t, r, joined(rnd, some))
	}
	for _, src := range oddTexts() {
		checkAsForms(t, r, src)
	}
}

func TestP21ParseOfOneSign(t *testing.T) {
	place := map[string]func(n int) int{
		"(": func(n int) int { return n }, "!": func(n int) int { return n },
		"{": func(n int) int { return min(n, 1) }, "-": func(n int) int { return min(n, 1) },
	}
	for _, sign := range signTexts() {
		for _, n := range []int{1, 2, 3, 10, 100, 399, 400, 401, 799, 800, 801, 802, 1600, 100000, 1 << 21} {
			want := 0
			if at := place[sign]; at != nil && n <= 800 {
				want = at(n)
			}
			checkRefused(t, strings.Repeat(sign, n), want)
		}
	}
	for n := 1; n <= 400; n++ {
		checkRefused(t, strings.Repeat("-(", n), 1)
		checkRefused(t, strings.Repeat("!(", n), 2*n)
		checkRefused(t, strings.Repeat("f(", n), 2*n)
		checkRefused(t, strings.Repeat("a.", n), 2*n)
		checkRefused(t, strings.Repeat("1+", n), 2*n)
		checkRefused(t, strings.Repeat("1-", n), 2*n)
		checkRefused(t, strings.Repeat("1 ", n), min(2*n, 2))
	}
	for n := 1; n <= 88; n++ {
		checkRefused(t, strings.Repeat("while(1){", n), 9*n)
		checkRefused(t, strings.Repeat("{a:", n), 3*n)
		checkRefused(t, strings.Repeat("if(", n), min(3*n, 3))
	}
	for n := 1; n <= 72; n++ {
		checkRefused(t, strings.Repeat("function(){", n), 11*n)
	}
}

// allLists: each list of a tree with the room behind it.
func allLists(n impl.Node) [][]impl.Node {
	out := [][]impl.Node{n.Kids[:cap(n.Kids)]}
	for _, kid := range n.Kids {
		out = append(out, allLists(kid)...)
	}
	return out
}

func spoiltNode() impl.Node { return impl.Node{Op: -7, S: "spoilt", N: -7} }

func TestP21TreesAreNew(t *testing.T) {
	for _, src := range append(wholePrograms(), "", "f(1, 2, 3, 4, 5);", "{a: 1, b: 2, c: 3}.d = 4; x = y; (x.y).z = 5;", "a.b.c.d = e;") {
		first, _ := impl.Parse(src)
		want := treeText(first)
		lists := allLists(first)
		for i, list := range lists {
			had := slices.Clone(list)
			for j := range list {
				list[j] = spoiltNode()
			}
			for k, other := range lists {
				if k != i && slices.ContainsFunc(other, func(n impl.Node) bool { return n.Op == -7 }) {
					t.Fatalf("%q: lists %d and %d share", src, i, k)
				}
			}
			copy(list, had)
		}
		for _, list := range lists {
			for j := range list {
				list[j] = spoiltNode()
			}
		}
		if again, bad := impl.Parse(src); bad != -1 || treeText(again) != want {
			t.Errorf("%q again: %s %d, want %s", src, treeText(again), bad, want)
		}
	}
}

// roomy: a tree like it each list of which has room behind it, with something in it.
func roomy(n impl.Node) impl.Node {
	kids := make([]impl.Node, 0, len(n.Kids)+3)
	for _, kid := range n.Kids {
		kids = append(kids, roomy(kid))
	}
	whole := kids[:cap(kids)]
	for i := len(kids); i < len(whole); i++ {
		whole[i] = spoiltNode()
	}
	n.Kids = kids
	return n
}

// wholeText: a tree and what is in the room behind its lists.
func wholeText(n impl.Node) string {
	out := strconv.Itoa(n.Op) + strconv.Quote(n.S) + strconv.Itoa(n.N) + "("
	for i, kid := range n.Kids[:cap(n.Kids)] {
		if i == len(n.Kids) {
			out += "|"
		}
		out += wholeText(kid) + " "
	}
	return out + ")"
}

func TestP21TreesAreNotWrittenInto(t *testing.T) {
	rnd := &dice{20}
	for range 300 {
		n := roomy(anyTree(rnd, 5))
		before := wholeText(n)
		size, deep := impl.Size(n), impl.Deep(n)
		if size != wantSize(n) || deep != wantDeep(n) || wholeText(n) != before {
			t.Fatalf("%s: %d %d, then %s", before, size, deep, wholeText(n))
		}
	}
}

func TestP21ParsedByManyAtOnce(t *testing.T) {
	shared := aTree(&dice{21}, 4, 5)
	size, deep := wantSize(shared), wantDeep(shared)
	var all sync.WaitGroup
	for range 16 {
		all.Go(func() {
			for _, src := range wholePrograms() {
				first, bad := impl.Parse(src)
				again, _ := impl.Parse(src)
				if bad != -1 || treeText(first) != treeText(again) {
					t.Error(src, bad)
				}
				if _, bad := impl.Parse(src + ")"); bad != len(src) {
					t.Error(src, bad)
				}
			}
			if impl.Size(shared) != size || impl.Deep(shared) != deep {
				t.Error("a tree that is shared")
			}
		})
	}
	all.Wait()
}
