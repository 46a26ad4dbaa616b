package tests

import (
	"math"
	"regexp"
	"slices"
	"strconv"
	"strings"
	"sync"
	"testing"

	"loop.example/g00242/impl"
)

// opRule: what the chapters say of an op: where its nodes stand (b a block, s a statement, e an expr, p a pair), what S and N are, where its kids stand, one letter each, and its text.
type opRule struct {
	stands string
	own    string
	kids   string
	text   string
}

// In a text $S is S, $N the number, $0 the first kid and so on, $* all of them and $+ all but the first one with a comma between, $; all of them as statements.
var opRules = map[int]opRule{
	impl.NdBlock:  {"b", "nothing", "s*", "{\n$;}"},
	impl.NdLet:    {"s", "name", "e", "let $S = $0;"},
	impl.NdSet:    {"s", "name", "e", "$S = $0;"},
	impl.NdPut:    {"s", "property", "ee", "($0).$S = $1;"},
	impl.NdIf:     {"s", "nothing", "ebb?", "if ($0) $1"},
	impl.NdWhile:  {"s", "nothing", "eb", "while ($0) $1"},
	impl.NdReturn: {"s", "nothing", "e", "return $0;"},
	impl.NdPrint:  {"s", "nothing", "e", "print $0;"},
	impl.NdDo:     {"s", "nothing", "e", "$0;"},
	impl.NdNum:    {"e", "number", "", "$N"},
	impl.NdText:   {"e", "text", "", `"$S"`},
	impl.NdTrue:   {"e", "nothing", "", "true"},
	impl.NdFalse:  {"e", "nothing", "", "false"},
	impl.NdNull:   {"e", "nothing", "", "null"},
	impl.NdUndef:  {"e", "nothing", "", "undefined"},
	impl.NdName:   {"e", "name", "", "$S"},
	impl.NdGet:    {"e", "property", "e", "($0).$S"},
	impl.NdCall:   {"e", "nothing", "ee*", "($0)($+)"},
	impl.NdAdd:    {"e", "nothing", "ee", "($0 + $1)"},
	impl.NdSub:    {"e", "nothing", "ee", "($0 - $1)"},
	impl.NdMul:    {"e", "nothing", "ee", "($0 * $1)"},
	impl.NdLess:   {"e", "nothing", "ee", "($0 < $1)"},
	impl.NdSame:   {"e", "nothing", "ee", "($0 == $1)"},
	impl.NdNot:    {"e", "nothing", "e", "!($0)"},
	impl.NdObj:    {"e", "nothing", "p*", "{$*}"},
	impl.NdPair:   {"p", "name", "e", "$S: $0"},
	impl.NdFun:    {"e", "names", "b", "function($S) $0"},
}

// kidPatterns: where the kids of each op stand, one behind the other.
var kidPatterns = func() map[int]*regexp.Regexp {
	out := map[int]*regexp.Regexp{}
	for op, rule := range opRules {
		out[op] = regexp.MustCompile("^" + rule.kids + "$")
	}
	return out
}()

// ownPatterns: S as each op has it, and how its N is told behind a point.
var ownPatterns = map[string]*regexp.Regexp{
	"nothing":  regexp.MustCompile(`^\.0$`),
	"name":     regexp.MustCompile(`^[a-zA-Z][a-zA-Z0-9]{0,11}\.0$`),
	"property": regexp.MustCompile(`^[a-zA-Z][a-zA-Z0-9]{0,11}\.0$`),
	"names":    regexp.MustCompile(`^([a-zA-Z][a-zA-Z0-9]{0,11}( [a-zA-Z][a-zA-Z0-9]{0,11})*)?\.0$`),
	"text":     regexp.MustCompile(`^[ !#-~]{0,30}\.0$`),
	"number":   regexp.MustCompile(`^\.-?[0-9]+$`),
}

func wantOwnOf(own string, n impl.Node) bool {
	if !ownPatterns[own].MatchString(n.S + "." + strconv.Itoa(n.N)) {
		return false
	}
	switch own {
	case "number":
		return n.N > -2147483648 && n.N < 2147483648
	case "property":
		return n.S == "proto" || !slices.Contains(wordTexts(), n.S)
	case "name", "names":
		return !slices.ContainsFunc(strings.Fields(n.S), func(name string) bool { return slices.Contains(wordTexts(), name) })
	}
	return true
}

// wantStands: where a node stands that is right with all that is in it; ? where it is not.
func wantStands(n impl.Node) string {
	rule, ok := opRules[n.Op]
	kids := ""
	for _, kid := range n.Kids {
		kids += wantStands(kid)
	}
	if !ok || !kidPatterns[n.Op].MatchString(kids) || !wantOwnOf(rule.own, n) {
		return "?"
	}
	return rule.stands
}

// wantNodeOk goes through no tree that is too great.
func wantNodeOk(n impl.Node) bool {
	return wantSize(n) < 201 && wantDeep(n) < 21 && wantStands(n) == "b"
}

func wantLines(kids []string) string {
	out := ""
	for _, kid := range kids {
		out += kid + "\n"
	}
	return out
}

func wantTexts(list []impl.Node) []string {
	var out []string
	for _, n := range list {
		out = append(out, wantText(n))
	}
	return out
}

// wantText: that of a node that is right.
func wantText(n impl.Node) string {
	rule := opRules[n.Op]
	kids := wantTexts(n.Kids)
	number := strconv.Itoa(n.N)
	if strings.HasPrefix(number, "-") {
		number = "(" + number + ")"
	}
	own := n.S
	if n.Op == impl.NdFun {
		own = strings.Join(strings.Fields(n.S), ", ")
	}
	if len(kids) == 3 && n.Op == impl.NdIf {
		rule.text += " else $2"
	}
	marks := []string{"$S", own, "$N", number, "$*", strings.Join(kids, ", "), "$;", wantLines(kids)}
	for i, kid := range kids {
		marks = append(marks, "$"+strconv.Itoa(i), kid)
	}
	if len(kids) > 0 {
		marks = append(marks, "$+", strings.Join(kids[1:], ", "))
	}
	return strings.NewReplacer(marks...).Replace(rule.text)
}

func wantWrite(n impl.Node) string {
	if !wantNodeOk(n) {
		return ""
	}
	return wantLines(wantTexts(n.Kids))
}

// checkParsed: what is written is parsed as it was, where a source may be so long.
func checkParsed(t *testing.T, n impl.Node) {
	t.Helper()
	text := impl.Write(n)
	if len(text) > impl.MaxSource {
		checkRefused(t, text, 0)
		return
	}
	checkParse(t, text, n, -1)
}

// checkWritten: it is right, its text is that one, and that is parsed as it was.
func checkWritten(t *testing.T, n impl.Node, want string) {
	t.Helper()
	if !impl.NodeOk(n) {
		t.Errorf("%.300s is not right", treeText(n))
	}
	if got := impl.Write(n); got != want {
		t.Errorf("%.300s: %.500q, want %.500q", treeText(n), got, want)
	}
	checkParsed(t, n)
}

func checkWrong(t *testing.T, what string, n impl.Node) {
	t.Helper()
	if impl.NodeOk(n) {
		t.Errorf("%s is right", what)
	}
	if got := impl.Write(n); got != "" {
		t.Errorf("%s: %.300q, want nothing", what, got)
	}
}

// checkAsRules: as the tests' own reckoning has it; and whether it is right.
func checkAsRules(t *testing.T, n impl.Node) bool {
	t.Helper()
	if !wantNodeOk(n) {
		checkWrong(t, treeText(n), n)
		return false
	}
	checkWritten(t, n, wantWrite(n))
	return true
}

// checkOneOk: whether such a tree is right is said by hand; the reckoning must say it too.
func checkOneOk(t *testing.T, n impl.Node, want bool) {
	t.Helper()
	if wantNodeOk(n) != want {
		t.Fatalf("the reckoning: %.300s", treeText(n))
	}
	checkAsRules(t, n)
}

// checkStatementText: a statement of a source, and its text without the byte 10 behind it; by itself, twice, and in blocks.
func checkStatementText(t *testing.T, src string, want string) {
	t.Helper()
	n, bad := impl.Parse(src)
	if bad != -1 || len(n.Kids) != 1 {
		t.Fatalf("%q: %d, %s", src, bad, treeText(n))
	}
	s := n.Kids[0]
	checkWritten(t, n, want+"\n")
	checkWritten(t, node(impl.NdBlock, s, s), want+"\n"+want+"\n")
	checkWritten(t, node(impl.NdBlock, node(impl.NdWhile, numNode(1), n)), "while (1) {\n"+want+"\n}\n")
	checkWritten(t, node(impl.NdBlock, node(impl.NdIf, numNode(1), n)), "if (1) {\n"+want+"\n}\n")
	checkWritten(t, node(impl.NdBlock, node(impl.NdIf, numNode(1), node(impl.NdBlock), n)), "if (1) {\n} else {\n"+want+"\n}\n")
	checkWritten(t, node(impl.NdBlock, node(impl.NdDo, node(impl.NdFun, n))), "function() {\n"+want+"\n};\n")
}

// checkExprText: an expr of a source, and its text, at each place where one belongs.
func checkExprText(t *testing.T, src string, want string) {
	t.Helper()
	n, bad := impl.Parse("print " + src + ";")
	if bad != -1 {
		t.Fatalf("%q: %d", src, bad)
	}
	e, a := n.Kids[0].Kids[0], nodeOf(impl.NdName, "a")
	empty := node(impl.NdBlock)
	places := map[string]impl.Node{
		"print " + want + ";":            node(impl.NdPrint, e),
		"return " + want + ";":           node(impl.NdReturn, e),
		want + ";":                       node(impl.NdDo, e),
		"let x = " + want + ";":          nodeOf(impl.NdLet, "x", e),
		"x = " + want + ";":              nodeOf(impl.NdSet, "x", e),
		"(a).p = " + want + ";":          nodeOf(impl.NdPut, "p", a, e),
		"(" + want + ").p = a;":          nodeOf(impl.NdPut, "p", e, a),
		"if (" + want + ") {\n}":         node(impl.NdIf, e, empty),
		"while (" + want + ") {\n}":      node(impl.NdWhile, e, empty),
		"(" + want + ").p;":              node(impl.NdDo, nodeOf(impl.NdGet, "p", e)),
		"(" + want + ")();":              node(impl.NdDo, node(impl.NdCall, e)),
		"(a)(" + want + ");":             node(impl.NdDo, node(impl.NdCall, a, e)),
		"(a)(a, " + want + ", a);":       node(impl.NdDo, node(impl.NdCall, a, a, e, a)),
		"!(" + want + ");":               node(impl.NdDo, node(impl.NdNot, e)),
		"(" + want + " + a);":            node(impl.NdDo, node(impl.NdAdd, e, a)),
		"(a - " + want + ");":            node(impl.NdDo, node(impl.NdSub, a, e)),
		"(" + want + " * " + want + ");": node(impl.NdDo, node(impl.NdMul, e, e)),
		"(" + want + " < a);":            node(impl.NdDo, node(impl.NdLess, e, a)),
		"(a == " + want + ");":           node(impl.NdDo, node(impl.NdSame, a, e)),
		"{p: " + want + "};":             node(impl.NdDo, node(impl.NdObj, nodeOf(impl.NdPair, "p", e))),
		"{p: a, q: " + want + "};":       node(impl.NdDo, node(impl.NdObj, nodeOf(impl.NdPair, "p", a), nodeOf(impl.NdPair, "q", e))),
	}
	for text, s := range places {
		checkWritten(t, node(impl.NdBlock, s), text+"\n")
	}
}

func TestP13Statements(t *testing.T) {
	checkWritten(t, node(impl.NdBlock), "")
	checkStatementText(t, "let x=1;", "let x = 1;")
	checkStatementText(t, "let  lets  =  lets ;", "let lets = lets;")
	checkStatementText(t, "x=1;", "x = 1;")
	checkStatementText(t, "((x))=1;", "x = 1;")
	checkStatementText(t, "o.p=1;", "(o).p = 1;")
	checkStatementText(t, "(o.p)=1;", "(o).p = 1;")
	checkStatementText(t, "o.proto=null;", "(o).proto = null;")
	checkStatementText(t, "a.b.c=d.e;", "((a).b).c = (d).e;")
	checkStatementText(t, "f(1).p=2;", "((f)(1)).p = 2;")
	checkStatementText(t, "{}.p=-2;", "({}).p = (-2);")
	checkStatementText(t, "-1.p=2;", "((-1)).p = 2;")
	checkStatementText(t, "(a+b).p=2;", "((a + b)).p = 2;")
	checkStatementText(t, "function(){}.p=2;", "(function() {\n}).p = 2;")
	checkStatementText(t, "if(x){}", "if (x) {\n}")
	checkStatementText(t, "if(x){}else{}", "if (x) {\n} else {\n}")
	checkStatementText(t, "if(x){1;}", "if (x) {\n1;\n}")
	checkStatementText(t, "if(x){1;2;}else{3;}", "if (x) {\n1;\n2;\n} else {\n3;\n}")
	checkStatementText(t, "if(x){}else{3;4;}", "if (x) {\n} else {\n3;\n4;\n}")
	checkStatementText(t, "if(-1){}", "if ((-1)) {\n}")
	checkStatementText(t, "if(a<b){}", "if ((a < b)) {\n}")
	checkStatementText(t, "if(x){if(y){}}else{}", "if (x) {\nif (y) {\n}\n} else {\n}")
	checkStatementText(t, "if(x){if(y){}else{}}", "if (x) {\nif (y) {\n} else {\n}\n}")
	checkStatementText(t, "while(x){}", "while (x) {\n}")
	checkStatementText(t, "while(x){x=0;}", "while (x) {\nx = 0;\n}")
	checkStatementText(t, "while(!x){while(y){}}", "while (!(x)) {\nwhile (y) {\n}\n}")
	checkStatementText(t, "return 1;", "return 1;")
	checkStatementText(t, "return(-1);", "return (-1);")
	checkStatementText(t, "return{};", "return {};")
	checkStatementText(t, "print 1;", "print 1;")
	checkStatementText(t, "print(1);", "print 1;")
	checkStatementText(t, "print(1)(2);", "print (1)(2);")
	checkStatementText(t, "x;", "x;")
	checkStatementText(t, "(x);", "x;")
	checkStatementText(t, "{};", "{};")
	checkStatementText(t, "f();", "(f)();")
	checkStatementText(t, "x.y;", "(x).y;")
	checkStatementText(t, "x==y;", "(x == y);")
	checkStatementText(t, "function(){};", "function() {\n};")
}

func TestP13Exprs(t *testing.T) {
	checkExprText(t, "0", "0")
	checkExprText(t, "-0", "0")
	checkExprText(t, "7", "7")
	checkExprText(t, "-7", "(-7)")
	checkExprText(t, "-1", "(-1)")
	checkExprText(t, "1", "1")
	checkExprText(t, "2147483647", "2147483647")
	checkExprText(t, "-2147483647", "(-2147483647)")
	checkExprText(t, `""`, `""`)
	checkExprText(t, `" "`, `" "`)
	checkExprText(t, `"a  b"`, `"a  b"`)
	checkExprText(t, `"-1"`, `"-1"`)
	checkExprText(t, `"$S"`, `"$S"`)
	checkExprText(t, `"\n;{}"`, `"\n;{}"`)
	checkExprText(t, "true", "true")
	checkExprText(t, "false", "false")
	checkExprText(t, "null", "null")
	checkExprText(t, "undefined", "undefined")
	checkExprText(t, "x", "x")
	checkExprText(t, "abcdefghijkl", "abcdefghijkl")
	checkExprText(t, "(((x)))", "x")
	checkExprText(t, "{}", "{}")
	checkExprText(t, "{p:1}", "{p: 1}")
	checkExprText(t, "{p:1,q:-2,p:{}}", "{p: 1, q: (-2), p: {}}")
	checkExprText(t, "{p:{q:{r:x}}}", "{p: {q: {r: x}}}")
	checkExprText(t, "{p:a+b,q:f(1)}", "{p: (a + b), q: (f)(1)}")
	checkExprText(t, "function(){}", "function() {\n}")
	checkExprText(t, "function(a){}", "function(a) {\n}")
	checkExprText(t, "function(a,b,a){return a;}", "function(a, b, a) {\nreturn a;\n}")
	checkExprText(t, "function(a){return function(){x;};}", "function(a) {\nreturn function() {\nx;\n};\n}")
	checkExprText(t, "x.y", "(x).y")
	checkExprText(t, "x.proto", "(x).proto")
	checkExprText(t, "x.y.z.proto", "(((x).y).z).proto")
	checkExprText(t, "-1.y", "((-1)).y")
	checkExprText(t, `"".y`, `("").y`)
	checkExprText(t, "{}.y", "({}).y")
	checkExprText(t, "(x+y).z", "((x + y)).z")
	checkExprText(t, "(!x).y", "(!(x)).y")
	checkExprText(t, "x().y", "((x)()).y")
	checkExprText(t, "f()", "(f)()")
	checkExprText(t, "f(1)", "(f)(1)")
	checkExprText(t, "f(1,x,-3)", "(f)(1, x, (-3))")
	checkExprText(t, "f(g(h()))", "(f)((g)((h)()))")
	checkExprText(t, "f()()(1)", "(((f)())())(1)")
	checkExprText(t, "x.y(1)", "((x).y)(1)")
	checkExprText(t, "-1(2)", "((-1))(2)")
	checkExprText(t, "(a+b)(c+d)", "((a + b))((c + d))")
	checkExprText(t, "function(a){}(1)", "(function(a) {\n})(1)")
	checkExprText(t, "!x", "!(x)")
	checkExprText(t, "!!!x", "!(!(!(x)))")
	checkExprText(t, "!-1", "!((-1))")
	checkExprText(t, "!(a+b)", "!((a + b))")
	checkExprText(t, "!a+b", "(!(a) + b)")
	checkExprText(t, "!x.y", "!((x).y)")
	checkExprText(t, "!f()", "!((f)())")
	checkExprText(t, "!{}", "!({})")
}

func TestP13SignsInBrackets(t *testing.T) {
	signs := []string{"+", "-", "*", "<", "=="}
	for _, one := range signs {
		checkExprText(t, "a"+one+"b", "(a "+one+" b)")
		checkExprText(t, "-1"+one+"-2", "((-1) "+one+" (-2))")
		checkExprText(t, "!a"+one+"b.c", "(!(a) "+one+" (b).c)")
		for _, two := range signs {
			checkExprText(t, "(a"+one+"b)"+two+"c", "((a "+one+" b) "+two+" c)")
			checkExprText(t, "a"+one+"(b"+two+"c)", "(a "+one+" (b "+two+" c))")
			for _, three := range signs {
				checkExprText(t, "((a"+one+"b)"+two+"c)"+three+"d", "(((a "+one+" b) "+two+" c) "+three+" d)")
				checkExprText(t, "a"+one+"(b"+two+"(c"+three+"d))", "(a "+one+" (b "+two+" (c "+three+" d)))")
				checkExprText(t, "(a"+one+"b)"+two+"(c"+three+"d)", "((a "+one+" b) "+two+" (c "+three+" d))")
			}
		}
	}
	checkExprText(t, "1+2+3", "((1 + 2) + 3)")
	checkExprText(t, "1-2-3", "((1 - 2) - 3)")
	checkExprText(t, "1-(2-3)", "(1 - (2 - 3))")
	checkExprText(t, "1--2", "(1 - (-2))")
	checkExprText(t, "1*2+3*4-5", "(((1 * 2) + (3 * 4)) - 5)")
	checkExprText(t, "1*(2+3)", "(1 * (2 + 3))")
	checkExprText(t, "a+b<c*d", "((a + b) < (c * d))")
}

func TestP13WholePrograms(t *testing.T) {
	texts := map[string]string{
		"let x = 1; x = -2; x.a = 3; x.proto = null;":                "let x = 1;\nx = (-2);\n(x).a = 3;\n(x).proto = null;\n",
		"if (x < 1) { print 2; } else { return y; } if (a) { }":      "if ((x < 1)) {\nprint 2;\n} else {\nreturn y;\n}\nif (a) {\n}\n",
		"while (!x) { x = x + 1 - 2 * y; if (z) { } } (1);":          "while (!(x)) {\nx = ((x + 1) - (2 * y));\nif (z) {\n}\n}\n1;\n",
		"f(); f(1, -2).g(h(3))(4).proto.k = {a: 1, b: {}};":          "(f)();\n((((((f)(1, (-2))).g)((h)(3)))(4)).proto).k = {a: 1, b: {}};\n",
		"let f = function(a, b) { return a == b; }; function() { };": "let f = function(a, b) {\nreturn (a == b);\n};\nfunction() {\n};\n",
		`print "a;" + "" ; print (true) ; return undefined * null;`:  "print (\"a;\" + \"\");\nprint true;\nreturn (undefined * null);\n",
		"(x) = (y.z); ((x.y)) = 1; (x + y).z = !(!1 - -1);":          "x = (y).z;\n(x).y = 1;\n((x + y)).z = !((!(1) - (-1)));\n",
		" \n ": "",
	}
	for src, want := range texts {
		n, bad := impl.Parse(src)
		if bad != -1 {
			t.Fatal(src, bad)
		}
		checkWritten(t, n, want)
	}
}

// checkRound: a program and all that it may look like: what is parsed is right, and what is written of that is parsed as it was.
func checkRound(t *testing.T, program impl.Node) {
	t.Helper()
	checkOneOk(t, program, true)
	for _, src := range sources(program) {
		n, bad := impl.Parse(src)
		if bad != -1 || !impl.NodeOk(n) || impl.Write(n) != wantWrite(program) {
			t.Errorf("%q: %d, %q, want %q", src, bad, impl.Write(n), wantWrite(program))
		}
		checkParsed(t, n)
	}
}

func TestP13EachWithinEach(t *testing.T) {
	var inner []impl.Node
	for _, atom := range atoms() {
		inner = append(inner, atom)
		inner = append(inner, exprsWith(atom)...)
	}
	for i, e := range inner {
		for _, s := range statementsWith(e) {
			checkOneOk(t, node(impl.NdBlock, s), true)
		}
		for j, outer := range exprsWith(e) {
			program := node(impl.NdBlock, node(impl.NdDo, outer))
			checkOneOk(t, program, true)
			if (i+j)%7 == 0 {
				checkRound(t, program)
			}
		}
	}
	for _, s := range statementsWith(numNode(-1)) {
		checkRound(t, node(impl.NdBlock, s))
		for _, about := range statementsAbout(s) {
			checkRound(t, node(impl.NdBlock, s, about, s))
			for _, further := range statementsAbout(about) {
				checkRound(t, node(impl.NdBlock, further))
			}
		}
	}
}

func TestP13SourcesAsTheyWere(t *testing.T) {
	for _, src := range wholePrograms() {
		n, bad := impl.Parse(src)
		if bad != -1 || !checkAsRules(t, n) {
			t.Error(src, bad)
		}
	}
	rnd := &dice{131}
	r := newReading()
	right, great := 0, 0
	for range 1500 {
		walk, there := aWalk(rnd, r, 4+rnd.below(90))
		if !slices.Contains(there.fitting(), "end") {
			continue
		}
		src := joined(rnd, walk)
		n, bad := impl.Parse(src)
		if bad != -1 {
			great++
			continue
		}
		right++
		if !checkAsRules(t, n) {
			t.Errorf("%q is not right when it is parsed", src)
		}
	}
	if right < 400 {
		t.Error("too few:", right, great)
	}
}

func TestP13AnyProgram(t *testing.T) {
	rnd := &dice{132}
	right, great, longer := 0, 0, 0
	for range 4000 {
		program := aTree(rnd, rnd.below(7), 1+rnd.below(12))
		switch {
		case !checkAsRules(t, program):
			great++
		case len(wantWrite(program)) > impl.MaxSource:
			longer++
		default:
			right++
		}
	}
	if right < 2000 || great < 10 || longer < 10 {
		t.Error("too few of a kind:", right, great, longer)
	}
}

// A tree may be right though its text is longer than a source may be.
func TestP13AsLongAsASource(t *testing.T) {
	for size := 780; size <= 830; size++ {
		n := node(impl.NdBlock)
		for used := 0; used < size-30; used += 14 {
			n.Kids = append(n.Kids, node(impl.NdDo, nodeOf(impl.NdName, "abcdefghijkl"))) // 14 bytes, with ; and the byte 10
		}
		rest := size - len(wantWrite(n))
		n.Kids = append(n.Kids, node(impl.NdDo, nodeOf(impl.NdText, strings.Repeat("x", rest-4))))
		text := wantWrite(n)
		checkWritten(t, n, text)
		if _, bad := impl.Parse(impl.Write(n)); len(text) != size || (bad == -1) != (size <= 800) {
			t.Errorf("%d bytes, want %d: %d", len(text), size, bad)
		}
	}
	names := strings.TrimSpace(strings.Repeat("abcdefghijkl ", 3000))
	checkWritten(t, node(impl.NdBlock, node(impl.NdDo, nodeOf(impl.NdFun, names, node(impl.NdBlock)))), "function("+strings.ReplaceAll(names, " ", ", ")+") {\n};\n")
}

// rightOne: a node of each op as it may be.
func rightOne(op int) impl.Node {
	a, empty := nodeOf(impl.NdName, "a"), node(impl.NdBlock)
	n := impl.Node{Op: op}
	switch opRules[op].own {
	case "name", "property":
		n.S = "x"
	case "names":
		n.S = "x y"
	case "text":
		n.S = "some text"
	case "number":
		n.N = -5
	}
	switch opRules[op].kids {
	case "e", "ee*":
		n.Kids = []impl.Node{a}
	case "ee":
		n.Kids = []impl.Node{a, a}
	case "b":
		n.Kids = []impl.Node{empty}
	case "eb", "ebb?":
		n.Kids = []impl.Node{a, empty}
	}
	return n
}

// standingAt: a node at each place where one may stand, and as the root.
func standingAt(n impl.Node) map[string]impl.Node {
	a, empty := nodeOf(impl.NdName, "a"), node(impl.NdBlock)
	block := func(s impl.Node) impl.Node { return node(impl.NdBlock, s) }
	return map[string]impl.Node{
		"root":             n,
		"first statement":  node(impl.NdBlock, n, node(impl.NdDo, a)),
		"last statement":   node(impl.NdBlock, node(impl.NdDo, a), n),
		"let":              block(nodeOf(impl.NdLet, "x", n)),
		"set":              block(nodeOf(impl.NdSet, "x", n)),
		"put into":         block(nodeOf(impl.NdPut, "x", n, a)),
		"put":              block(nodeOf(impl.NdPut, "x", a, n)),
		"if":               block(node(impl.NdIf, n, empty)),
		"then":             block(node(impl.NdIf, a, n)),
		"then with else":   block(node(impl.NdIf, a, n, empty)),
		"else":             block(node(impl.NdIf, a, empty, n)),
		"while":            block(node(impl.NdWhile, n, empty)),
		"again":            block(node(impl.NdWhile, a, n)),
		"within":           block(node(impl.NdWhile, a, block(n))),
		"return":           block(node(impl.NdReturn, n)),
		"print":            block(node(impl.NdPrint, n)),
		"do":               block(node(impl.NdDo, n)),
		"get":              block(node(impl.NdDo, nodeOf(impl.NdGet, "x", n))),
		"call":             block(node(impl.NdDo, node(impl.NdCall, n))),
		"first handed in":  block(node(impl.NdDo, node(impl.NdCall, a, n))),
		"last handed in":   block(node(impl.NdDo, node(impl.NdCall, a, a, n))),
		"add":              block(node(impl.NdDo, node(impl.NdAdd, n, a))),
		"add behind":       block(node(impl.NdDo, node(impl.NdAdd, a, n))),
		"sub":              block(node(impl.NdDo, node(impl.NdSub, n, a))),
		"sub behind":       block(node(impl.NdDo, node(impl.NdSub, a, n))),
		"mul":              block(node(impl.NdDo, node(impl.NdMul, n, a))),
		"mul behind":       block(node(impl.NdDo, node(impl.NdMul, a, n))),
		"less":             block(node(impl.NdDo, node(impl.NdLess, n, a))),
		"less behind":      block(node(impl.NdDo, node(impl.NdLess, a, n))),
		"same":             block(node(impl.NdDo, node(impl.NdSame, n, a))),
		"same behind":      block(node(impl.NdDo, node(impl.NdSame, a, n))),
		"not":              block(node(impl.NdDo, node(impl.NdNot, n))),
		"only of an obj":   block(node(impl.NdDo, node(impl.NdObj, n))),
		"last of an obj":   block(node(impl.NdDo, node(impl.NdObj, nodeOf(impl.NdPair, "p", a), n))),
		"pair":             block(node(impl.NdDo, node(impl.NdObj, nodeOf(impl.NdPair, "p", n)))),
		"fun":              block(node(impl.NdDo, node(impl.NdFun, n))),
		"statement of fun": block(node(impl.NdDo, nodeOf(impl.NdFun, "p", block(n)))),
	}
}

// belongs: the places at which those that stand so belong.
func belongs(stands string) []string {
	return map[string][]string{
		"b": {"root", "then", "then with else", "else", "again", "fun"},
		"s": {"first statement", "last statement", "within", "statement of fun"},
		"e": {"let", "set", "put into", "put", "if", "while", "return", "print", "do", "get", "call", "first handed in", "last handed in", "add", "add behind",
			"sub", "sub behind", "mul", "mul behind", "less", "less behind", "same", "same behind", "not", "pair"},
		"p": {"only of an obj", "last of an obj"},
	}[stands]
}

// checkStandings: a node at each place; right where it belongs, if it is right itself.
func checkStandings(t *testing.T, n impl.Node, right bool) {
	t.Helper()
	for where, tree := range standingAt(n) {
		want := right && slices.Contains(belongs(opRules[n.Op].stands), where)
		if got := impl.NodeOk(tree); got != want {
			t.Errorf("%s: %s: %t", where, treeText(n), got)
		}
		checkOneOk(t, tree, want)
	}
}

func TestP13EachOpAtEachPlace(t *testing.T) {
	for op := range opRules {
		checkStandings(t, rightOne(op), true)
	}
	for _, op := range []int{0, 28, 29, 100, -1, -27, 256 + impl.NdNum, 1<<32 + impl.NdNum, math.MinInt, math.MinInt + 1, math.MaxInt} {
		checkStandings(t, impl.Node{Op: op}, false)
		for other := range opRules {
			n := rightOne(other)
			n.Op = op
			checkStandings(t, n, false)
		}
	}
	checkWrong(t, "zero", impl.Node{})
}

// TestP13OneKidMoreOneLess: each op with each few kids, one of each standing.
func TestP13OneKidMoreOneLess(t *testing.T) {
	stand := map[string]impl.Node{"b": node(impl.NdBlock), "s": node(impl.NdDo, numNode(1)), "e": numNode(1), "p": nodeOf(impl.NdPair, "p", numNode(1))}
	lists := []string{""}
	for from := 0; len(lists[from]) < 4; from++ {
		for _, one := range []string{"b", "s", "e", "p"} {
			lists = append(lists, lists[from]+one)
		}
	}
	rights := map[int][]string{
		impl.NdBlock: {"", "s", "ss", "sss", "ssss"}, impl.NdLet: {"e"}, impl.NdSet: {"e"}, impl.NdPut: {"ee"}, impl.NdIf: {"eb", "ebb"}, impl.NdWhile: {"eb"},
		impl.NdReturn: {"e"}, impl.NdPrint: {"e"}, impl.NdDo: {"e"}, impl.NdNum: {""}, impl.NdText: {""}, impl.NdTrue: {""}, impl.NdFalse: {""}, impl.NdNull: {""},
		impl.NdUndef: {""}, impl.NdName: {""}, impl.NdGet: {"e"}, impl.NdCall: {"e", "ee", "eee", "eeee"}, impl.NdAdd: {"ee"}, impl.NdSub: {"ee"}, impl.NdMul: {"ee"},
		impl.NdLess: {"ee"}, impl.NdSame: {"ee"}, impl.NdNot: {"e"}, impl.NdObj: {"", "p", "pp", "ppp", "pppp"}, impl.NdPair: {"e"}, impl.NdFun: {"b"},
	}
	for op, right := range rights {
		for _, list := range lists {
			n := rightOne(op)
			n.Kids = nil
			for _, one := range list {
				n.Kids = append(n.Kids, stand[string(one)])
			}
			for _, where := range belongs(opRules[op].stands)[:2] {
				checkOneOk(t, standingAt(n)[where], slices.Contains(right, list))
			}
		}
	}
}

// rightNames: some of which are nearly words.
func rightNames() []string {
	return []string{"x", "X", "a1", "z9Z", "abcdefghijkl", "A0123456789Z", "lets", "Let", "LET", "le", "protos", "Proto", "prot", "tru", "True", "undef", "functions", "ifs", "i", "f"}
}

func wrongNames() []string {
	wrong := []string{"", " ", "x ", " x", "x\n", "\nx", "x y", "1", "1x", "0", "9a", "abcdefghijklm", "a0123456789bc", strings.Repeat("a", 1000), "x.y", "a_b", "_", "a-b", "(x)", `"x"`, "x;", "a$", "x=1", "a,b", "x\x00", "\x00", "é", "xé", "\xff", "a\x80"}
	return append(wrong, slices.DeleteFunc(wordTexts(), func(word string) bool { return word == "proto" })...)
}

// namedOps: those with one name.
func namedOps() []int {
	return []int{impl.NdLet, impl.NdSet, impl.NdPut, impl.NdName, impl.NdGet, impl.NdPair}
}

func checkOwn(t *testing.T, n impl.Node, right bool) {
	t.Helper()
	for _, where := range belongs(opRules[n.Op].stands)[:2] {
		checkOneOk(t, standingAt(n)[where], right)
	}
}

func TestP13Names(t *testing.T) {
	for _, op := range namedOps() {
		n := rightOne(op)
		for _, name := range rightNames() {
			n.S = name
			checkOwn(t, n, true)
		}
		for _, name := range wrongNames() {
			n.S = name
			checkOwn(t, n, false)
		}
		n.S = "proto"
		checkOwn(t, n, op == impl.NdGet || op == impl.NdPut)
		for _, name := range likeWords() {
			n.S = name
			checkOwn(t, n, wantOwnOf("name", n))
		}
		for b := range 256 {
			letter := b >= 'a' && b <= 'z' || b >= 'A' && b <= 'Z'
			digit := b >= '0' && b <= '9'
			one := string([]byte{byte(b)})
			n.S = one
			checkOwn(t, n, letter)
			n.S = "q" + one
			checkOwn(t, n, letter || digit)
			n.S = "q" + one + "q"
			checkOwn(t, n, letter || digit)
			n.S = one + "q"
			checkOwn(t, n, letter)
		}
	}
}

func TestP13NamesOfFunctions(t *testing.T) {
	n := rightOne(impl.NdFun)
	check := func(names string, right bool) {
		t.Helper()
		n.S = names
		checkOwn(t, n, right)
	}
	check("", true)
	for _, name := range rightNames() {
		check(name, true)
		check(name+" b", true)
		check("b "+name, true)
		check(name+" "+name, true)
		check(name+"  b", false)
		check(" "+name, false)
		check(name+" ", false)
		check(name+",b", false)
		check(name+", b", false)
		check(name+"\nb", false)
		check(name+"\tb", false)
	}
	for _, name := range append(wrongNames(), "proto") {
		if name != "" && name != "x y" {
			check(name, false)
		}
		if name != "x y" {
			check(name+" b", false)
			check("b "+name, false)
			check("b "+name+" c", false)
		}
	}
	check("x y", true)
	check("a b c d e f g h i j k l m n o p q r s t u v w x y z", true)
	check("a b a b a", true)
	check("  ", false)
	check("ab", true)
	check("abcdefghijkl abcdefghijkl", true)
	check("abcdefghijklabcdefghijkl", false)
	checkStatementText(t, "let f=function(a , b,a){};", "let f = function(a, b, a) {\n};")
}

func TestP13Numbers(t *testing.T) {
	for _, n := range []int{0, 1, -1, 9, 10, -10, 2147483646, 2147483647, -2147483646, -2147483647} {
		checkOwn(t, numNode(n), true)
		text := strconv.Itoa(n)
		if n < 0 {
			text = "(" + text + ")"
		}
		checkWritten(t, node(impl.NdBlock, node(impl.NdPrint, numNode(n))), "print "+text+";\n")
	}
	for _, n := range []int{2147483648, -2147483648, -2147483649, 4294967295, 4294967296, -4294967296, 1 << 40, math.MaxInt, math.MinInt} {
		checkOwn(t, numNode(n), false)
	}
	for _, n := range edgeNumbers() {
		checkOwn(t, numNode(n), n >= -2147483647 && n <= 2147483647)
	}
}

func TestP13Texts(t *testing.T) {
	for size := range 34 {
		for _, part := range []string{"a", " ", "~", "\\", ";"} {
			checkOwn(t, nodeOf(impl.NdText, strings.Repeat(part, size)), size <= 30)
		}
	}
	for b := range 256 {
		right := b >= 32 && b <= 126 && b != '"'
		one := string([]byte{byte(b)})
		for _, text := range []string{one, one + "a", "a" + one, "a" + one + "a", strings.Repeat("a", 29) + one, one + strings.Repeat(" ", 29)} {
			checkOwn(t, nodeOf(impl.NdText, text), right)
		}
		checkOwn(t, nodeOf(impl.NdText, strings.Repeat("a", 30)+one), false)
	}
	for _, text := range append(wordTexts(), signTexts()...) {
		checkWritten(t, node(impl.NdBlock, node(impl.NdPrint, nodeOf(impl.NdText, text))), "print \""+text+"\";\n")
	}
	for _, text := range oddTexts() {
		checkOwn(t, nodeOf(impl.NdText, text), wantOwnOf("text", nodeOf(impl.NdText, text)))
	}
}

// TestP13WhatIsNotNamed: an S or an N that the op does not have.
func TestP13WhatIsNotNamed(t *testing.T) {
	for op, rule := range opRules {
		for _, number := range []int{1, -1, 5, 2147483647, math.MaxInt, math.MinInt, 1 << 32} {
			n := rightOne(op)
			n.N = number
			checkOwn(t, n, op == impl.NdNum && number >= -2147483647 && number <= 2147483647)
		}
		if rule.own != "nothing" && rule.own != "number" {
			continue
		}
		for _, s := range []string{"x", " ", "proto", "0", "-5", "a b", "true", "\x00", strings.Repeat("x", 100)} {
			n := rightOne(op)
			n.S = s
			checkOwn(t, n, false)
		}
	}
	for _, n := range []impl.Node{{Op: impl.NdBlock, S: "x"}, {Op: impl.NdBlock, N: 1}, {Op: impl.NdBlock, N: -1}, {Op: impl.NdBlock, S: " "}} {
		checkWrong(t, treeText(n), n)
	}
}

// An empty list and nil are the same.
func TestP13NoKids(t *testing.T) {
	for op := range opRules {
		n := rightOne(op)
		if len(n.Kids) > 0 {
			n.Kids = []impl.Node{}
			checkOwn(t, n, false)
			n.Kids = nil
			checkOwn(t, n, false)
			continue
		}
		n.Kids = []impl.Node{}
		checkOwn(t, n, true)
		n.Kids = make([]impl.Node, 0, 5)
		checkOwn(t, n, true)
		n.Kids = []impl.Node{{}}
		checkOwn(t, n, false)
	}
	checkWritten(t, impl.Node{Op: impl.NdBlock, Kids: []impl.Node{}}, "")
}

// filledTree: a program of that many nodes with this one first.
func filledTree(first impl.Node, want int) impl.Node {
	n := node(impl.NdBlock, first)
	if (want-wantSize(n))%2 != 0 {
		n.Kids = append(n.Kids, node(impl.NdPrint, node(impl.NdNot, numNode(1))))
	}
	for wantSize(n) < want {
		n.Kids = append(n.Kids, node(impl.NdDo, numNode(1)))
	}
	return n
}

func TestP13HowMany(t *testing.T) {
	for _, first := range slices.Concat(statementsWith(numNode(1)), statementsAbout(node(impl.NdDo, numNode(2)))) {
		for _, want := range []int{198, 199, 200, 201, 202, 300} {
			n := filledTree(first, want)
			if wantSize(n) != want {
				t.Fatal(wantSize(n))
			}
			checkOneOk(t, n, want <= 200)
			block := node(impl.NdBlock, node(impl.NdWhile, numNode(1), filledTree(first, want-3)))
			checkOneOk(t, block, want <= 200)
			fun := node(impl.NdBlock, node(impl.NdDo, nodeOf(impl.NdFun, "a b", filledTree(first, want-3))))
			checkOneOk(t, fun, want <= 200)
		}
	}
	for count := 190; count <= 205; count++ {
		var handed, pairs []impl.Node
		for range count - 3 {
			handed = append(handed, numNode(1))
		}
		checkOneOk(t, node(impl.NdBlock, node(impl.NdDo, node(impl.NdCall, handed...))), count <= 200)
		for range (count - 3) / 2 {
			pairs = append(pairs, nodeOf(impl.NdPair, "p", numNode(1)))
		}
		more := []impl.Node{node(impl.NdDo, node(impl.NdObj, pairs...))}
		checkOneOk(t, node(impl.NdBlock, more...), 3+2*len(pairs) <= 200)
	}
}

// deeper: an expr within one more of each kind.
func deeper() []func(e impl.Node) impl.Node {
	a := nodeOf(impl.NdName, "a")
	fun := func(s impl.Node) impl.Node { return node(impl.NdFun, node(impl.NdBlock, s)) }
	return []func(e impl.Node) impl.Node{
		func(e impl.Node) impl.Node { return node(impl.NdNot, e) },
		func(e impl.Node) impl.Node { return nodeOf(impl.NdGet, "p", e) },
		func(e impl.Node) impl.Node { return node(impl.NdCall, e) },
		func(e impl.Node) impl.Node { return node(impl.NdCall, a, a, e) },
		func(e impl.Node) impl.Node { return node(impl.NdAdd, e, a) },
		func(e impl.Node) impl.Node { return node(impl.NdSub, a, e) },
		func(e impl.Node) impl.Node { return node(impl.NdMul, e, a) },
		func(e impl.Node) impl.Node { return node(impl.NdLess, a, e) },
		func(e impl.Node) impl.Node { return node(impl.NdSame, e, a) },
		func(e impl.Node) impl.Node { return node(impl.NdObj, nodeOf(impl.NdPair, "p", e)) },
		func(e impl.Node) impl.Node { return fun(node(impl.NdReturn, e)) },
		func(e impl.Node) impl.Node { return fun(nodeOf(impl.NdPut, "p", e, a)) },
		func(e impl.Node) impl.Node { return fun(node(impl.NdIf, e, node(impl.NdBlock))) },
		func(e impl.Node) impl.Node {
			return fun(node(impl.NdIf, a, node(impl.NdBlock), node(impl.NdBlock, node(impl.NdPrint, e))))
		},
		func(e impl.Node) impl.Node {
			return fun(node(impl.NdWhile, a, node(impl.NdBlock, nodeOf(impl.NdLet, "p", e))))
		},
	}
}

func TestP13HowDeep(t *testing.T) {
	for i, more := range deeper() {
		for want := 3; want <= 45; want++ {
			e := numNode(1)
			for wantDeep(more(e)) <= want-2 {
				e = more(e)
			}
			for wantDeep(e) < want-2 {
				e = node(impl.NdNot, e)
			}
			for _, s := range []impl.Node{node(impl.NdDo, e), nodeOf(impl.NdLet, "x", e), nodeOf(impl.NdPut, "x", numNode(1), e)} {
				n := node(impl.NdBlock, s)
				if wantDeep(n) != want {
					t.Fatal(i, want, wantDeep(n))
				}
				checkOneOk(t, n, want <= 20)
			}
		}
	}
	for times := range 15 {
		n := node(impl.NdBlock)
		for range times {
			n = node(impl.NdBlock, node(impl.NdWhile, numNode(1), n))
		}
		checkOneOk(t, n, max(1+2*times, 3*min(times, 1)) <= 20)
	}
}

// nodesOf: all nodes of a tree.
func nodesOf(n *impl.Node) []*impl.Node {
	out := []*impl.Node{n}
	for i := range n.Kids {
		out = append(out, nodesOf(&n.Kids[i])...)
	}
	return out
}

// turnOne: one thing of a node is another one.
func turnOne(rnd *dice, n *impl.Node) {
	names, numbers, ops := slices.Concat(rightNames(), wrongNames(), []string{"proto", "x y", "a b"}), edgeNumbers(), anyOps()
	switch rnd.below(8) {
	case 0:
		n.Op = ops[rnd.below(len(ops))]
	case 1:
		n.S = names[rnd.below(len(names))]
	case 2:
		n.N = numbers[rnd.below(len(numbers))]
	case 3:
		n.Kids = n.Kids[:rnd.below(len(n.Kids)+1)]
	case 4:
		n.Kids = append(slices.Clone(n.Kids), anExpr(rnd, 2))
	case 5:
		n.Kids = append([]impl.Node{aStatement(rnd, 2)}, n.Kids...)
	case 6:
		*n = anExpr(rnd, 3)
	case 7:
		*n = aTree(rnd, rnd.below(3), 2)
	}
}

func TestP13OneThingTurned(t *testing.T) {
	rnd := &dice{133}
	right, wrong := 0, 0
	for range 12000 {
		n := roomy(aTree(rnd, 1+rnd.below(3), 1+rnd.below(5)))
		all := nodesOf(&n)
		turnOne(rnd, all[rnd.below(len(all))])
		if checkAsRules(t, n) {
			right++
		} else {
			wrong++
		}
	}
	if right < 500 || wrong < 3000 {
		t.Error("too few of a kind:", right, wrong)
	}
}

// What is wrong is found wherever it stands: each node of a great program in turn.
func TestP13WrongAnywhere(t *testing.T) {
	for _, src := range append(wholePrograms(), "{a: function(x, y) { while (x) { if (y) { print 1; } else { x.y = f(1, -2)(3).proto; } } }};") {
		n, bad := impl.Parse(src)
		if bad != -1 {
			t.Fatal(src)
		}
		for i := range nodesOf(&n) {
			turns := []func(one *impl.Node){
				func(one *impl.Node) { one.Op = 0 }, func(one *impl.Node) { one.Op = 28 }, func(one *impl.Node) { one.S += " " }, func(one *impl.Node) { one.N += 1 << 33 },
				func(one *impl.Node) { one.Kids = append(slices.Clone(one.Kids), impl.Node{}) },
				func(one *impl.Node) { *one = impl.Node{} }, func(one *impl.Node) { one.S = "\n" }, func(one *impl.Node) { one.S = `"` },
			}
			for _, turn := range turns {
				turned := roomy(n)
				one := nodesOf(&turned)[i]
				turn(one)
				checkOneOk(t, turned, one.Op == impl.NdText && wantOwnOf("text", *one) && len(one.Kids) == 0)
			}
		}
	}
}

func TestP21NodeOkOfAnyTree(t *testing.T) {
	rnd := &dice{134}
	for range 4000 {
		checkAsRules(t, anyTree(rnd, 1+rnd.below(6)))
		n := anyTree(rnd, 1+rnd.below(4))
		n.Op, n.S, n.N = impl.NdBlock, "", 0
		checkAsRules(t, n)
	}
	for _, op := range anyOps() {
		for _, s := range append(oddTexts(), "x", "proto", "x y", strings.Repeat("x", 1<<16)) {
			for _, number := range []int{0, 1, math.MinInt, math.MaxInt} {
				checkAsRules(t, impl.Node{Op: op, S: s, N: number})
				checkAsRules(t, node(impl.NdBlock, node(impl.NdDo, impl.Node{Op: op, S: s, N: number})))
				checkAsRules(t, node(impl.NdBlock, impl.Node{Op: op, S: s, N: number, Kids: []impl.Node{}}))
			}
		}
	}
}

func TestP21WriteOfGreatTrees(t *testing.T) {
	const many = 1000000
	checkWrong(t, "a deep one", chainOf(many))
	checkWrong(t, "a deep expr", node(impl.NdBlock, node(impl.NdDo, chainOf(many))))
	blocks := node(impl.NdBlock)
	for range many / 10 {
		blocks = node(impl.NdBlock, node(impl.NdWhile, numNode(1), blocks))
	}
	checkWrong(t, "deep blocks", blocks)
	checkWrong(t, "a wide one", node(impl.NdBlock, make([]impl.Node, many)...))
	wide := node(impl.NdBlock)
	for range many / 10 {
		wide.Kids = append(wide.Kids, node(impl.NdDo, numNode(1)))
	}
	checkWrong(t, "many statements", wide)
	for _, size := range []int{1 << 10, 1 << 16, 1 << 19} {
		for _, op := range anyOps() {
			checkWrong(t, "a long S", node(impl.NdBlock, node(impl.NdDo, nodeOf(op, strings.Repeat("x", size)))))
			checkWrong(t, "a root with a long S", nodeOf(op, strings.Repeat(" ", size)))
		}
		names := strings.Repeat("a ", size) + "b"
		n := node(impl.NdBlock, node(impl.NdDo, nodeOf(impl.NdFun, names, node(impl.NdBlock))))
		if !impl.NodeOk(n) || impl.Write(n) != "function("+strings.Repeat("a, ", size)+"b) {\n};\n" {
			t.Error("many names:", size)
		}
		n.Kids[0].Kids[0].S += " "
		checkWrong(t, "many names and a blank", n)
	}
}

// One list may stand at many places: there are as many nodes as one meets, each with its own text.
func TestP21WriteOfSharedLists(t *testing.T) {
	e := numNode(1)
	for times := range 300 {
		n := node(impl.NdBlock, node(impl.NdDo, e))
		if times <= 10 {
			checkOneOk(t, n, times <= 6) // 2 nodes and 2 to the power of one more than times, less one
		} else {
			checkWrong(t, "twice each", n)
		}
		e = node(impl.NdAdd, e, e)
	}
	row := []impl.Node{{}, node(impl.NdPrint, numNode(-2)), node(impl.NdDo, node(impl.NdObj))}
	row[0] = node(impl.NdWhile, numNode(1), impl.Node{Op: impl.NdBlock, Kids: row[1:]})
	checkWritten(t, impl.Node{Op: impl.NdBlock, Kids: row}, "while (1) {\nprint (-2);\n{};\n}\nprint (-2);\n{};\n")
	for length := 1; length <= 5; length++ {
		ring := make([][]impl.Node, length)
		for i := range ring {
			ring[i] = make([]impl.Node, 2)
		}
		for i := range ring {
			ring[i][0] = node(impl.NdPrint, numNode(i))
			ring[i][1] = node(impl.NdWhile, numNode(1), impl.Node{Op: impl.NdBlock, Kids: ring[(i+1)%length]})
		}
		checkWrong(t, "a ring", impl.Node{Op: impl.NdBlock, Kids: ring[0]})
		checkWrong(t, "a ring further in", node(impl.NdBlock, node(impl.NdDo, node(impl.NdFun, impl.Node{Op: impl.NdBlock, Kids: ring[0]}))))
		ring[length-1][1] = node(impl.NdDo, numNode(1))
		checkOneOk(t, impl.Node{Op: impl.NdBlock, Kids: ring[0]}, true)
	}
	self := []impl.Node{{Op: impl.NdNot}}
	self[0].Kids = self
	checkWrong(t, "an expr within itself", node(impl.NdBlock, node(impl.NdDo, self[0])))
}

func TestP21WrittenTreesAreNotWrittenInto(t *testing.T) {
	rnd := &dice{135}
	trees := []impl.Node{}
	for range 200 {
		trees = append(trees, roomy(anyTree(rnd, 5)), roomy(aTree(rnd, rnd.below(5), 1+rnd.below(6))))
	}
	for _, src := range wholePrograms() {
		n, _ := impl.Parse(src)
		trees = append(trees, roomy(n))
	}
	for _, n := range trees {
		before := wholeText(n)
		ok, text := impl.NodeOk(n), impl.Write(n)
		if wholeText(n) != before {
			t.Fatalf("%s, then %s", before, wholeText(n))
		}
		if ok != wantNodeOk(n) || text != wantWrite(n) || impl.NodeOk(n) != ok || impl.Write(n) != text {
			t.Errorf("%s: %t %q", treeText(n), ok, text)
		}
	}
}

// What was written stays, whatever becomes of the tree.
func TestP21WrittenTextsStay(t *testing.T) {
	for _, src := range wholePrograms() {
		n, _ := impl.Parse(src)
		text, want := impl.Write(n), wantWrite(n)
		for _, list := range allLists(n) {
			for i := range list {
				list[i] = spoiltNode()
			}
		}
		if text != want {
			t.Errorf("%q: %q, want %q", src, text, want)
		}
		checkWrong(t, "a spoilt one", n)
	}
}

func TestP21WrittenByManyAtOnce(t *testing.T) {
	shared := aTree(&dice{136}, 4, 5)
	want := wantWrite(shared)
	if want == "" {
		t.Fatal("nothing is written")
	}
	var all sync.WaitGroup
	for range 16 {
		all.Go(func() {
			for _, src := range wholePrograms() {
				n, _ := impl.Parse(src)
				checkWritten(t, n, wantWrite(n))
			}
			if !impl.NodeOk(shared) || impl.Write(shared) != want {
				t.Error("a tree that is shared")
			}
		})
	}
	all.Wait()
}
