package tests

import (
	"regexp"
	"slices"
	"strconv"
	"strings"
	"sync"
	"testing"

	"loop.example/g00242/impl"
)

// funPart: a function as the tests reckon it: its node, the number of the one about it (-1 where there is none), and the nodes that are in it and in no function further in.
type funPart struct {
	n     impl.Node
	about int
	own   []impl.Node
}

// funParts: the functions of a tree in the order in which they begin, the tree itself first.
func funParts(n impl.Node) []funPart {
	parts := []funPart{{n: n, about: -1}}
	var into func(kids []impl.Node, in int)
	into = func(kids []impl.Node, in int) {
		for _, kid := range kids {
			parts[in].own = append(parts[in].own, kid)
			if kid.Op != impl.NdFun {
				into(kid.Kids, in)
				continue
			}
			parts = append(parts, funPart{n: kid, about: in})
			into(kid.Kids, len(parts)-1)
		}
	}
	into(n.Kids, 0)
	return parts
}

var oneBlank = regexp.MustCompile(" ")

// declares: names, then lets, as often as they stand there.
func (p funPart) declares() []string {
	var out []string
	if p.n.Op == impl.NdFun && len(p.n.S) > 0 {
		out = oneBlank.Split(p.n.S, -1)
	}
	for _, n := range p.own {
		if n.Op == impl.NdLet {
			out = append(out, n.S)
		}
	}
	return out
}

func (p funPart) uses() []string {
	var out []string
	for _, n := range p.own {
		if n.Op == impl.NdName || n.Op == impl.NdSet {
			out = append(out, n.S)
		}
	}
	return out
}

func wantVars(n impl.Node) []string {
	var out []string
	for _, name := range funParts(n)[0].declares() {
		if !slices.Contains(out, name) {
			out = append(out, name)
		}
	}
	return out
}

func wantFind(scopes [][]string, name string) (int, int, bool) {
	depth := 0
	for _, scope := range slices.Backward(scopes) {
		if place := slices.Index(scope, name); place >= 0 {
			return depth, place, true
		}
		depth++
	}
	return 0, 0, false
}

func wantFuns(n impl.Node) []string {
	var out []string
	if wantNodeOk(n) {
		for _, part := range funParts(n) {
			out = append(out, treeText(part.n))
		}
	}
	return out
}

// sees: whether a function or one about it declares such a name.
func sees(parts []funPart, in int, name string) bool {
	for ; in >= 0; in = parts[in].about {
		if slices.Contains(parts[in].declares(), name) {
			return true
		}
	}
	return false
}

func wantCheck(n impl.Node) int {
	if !wantNodeOk(n) {
		return 1
	}
	parts := funParts(n)
	for in, part := range parts {
		sorted := slices.Sorted(slices.Values(part.declares()))
		switch all := len(sorted); {
		case len(slices.Compact(sorted)) < all:
			return 2
		case all > 12 || len(parts) > 40:
			return 3
		}
		for _, name := range part.uses() {
			if !sees(parts, in, name) {
				return 4
			}
		}
	}
	return 0
}

func treeTexts(list []impl.Node) []string {
	var out []string
	for _, n := range list {
		out = append(out, treeText(n))
	}
	return out
}

func checkVars(t *testing.T, what string, n impl.Node, want ...string) {
	t.Helper()
	if got := impl.Vars(n); !slices.Equal(got, want) {
		t.Errorf("%s: Vars %.300q, want %.300q", what, got, want)
	}
}

func checkFind(t *testing.T, scopes [][]string, name string, depth, place int, found bool) {
	t.Helper()
	if gotDepth, gotPlace, got := impl.Find(scopes, name); gotDepth != depth || gotPlace != place || got != found {
		t.Errorf("%q in %q: %d %d %t, want %d %d %t", name, scopes, gotDepth, gotPlace, got, depth, place, found)
	}
}

func checkCode(t *testing.T, what string, n impl.Node, want int) {
	t.Helper()
	if got := impl.Check(n); got != want {
		t.Errorf("%s: Check %d, want %d", what, got, want)
	}
}

// aboutOf: the Vars of a function and of those about it, its own last.
func aboutOf(parts []funPart, all []impl.Node, in int) [][]string {
	var out [][]string
	for ; in >= 0; in = parts[in].about {
		out = append([][]string{impl.Vars(all[in])}, out...)
	}
	return out
}

// checkOnePlace: a name is found, it stands once in that scope, and in none further in.
func checkOnePlace(t *testing.T, what string, scopes [][]string, name string) {
	t.Helper()
	depth, place, found := impl.Find(scopes, name)
	if !found || depth >= len(scopes) {
		t.Errorf("%s: %q is not found in %q", what, name, scopes)
		return
	}
	last := len(scopes) - 1
	for i, scope := range slices.Backward(scopes[last-depth:]) {
		var places []int
		for at, one := range scope {
			if one == name {
				places = append(places, at)
			}
		}
		if i == 0 && !slices.Equal(places, []int{place}) || i > 0 && places != nil {
			t.Errorf("%s: %q at %d %d, among %q it stands at %d", what, name, depth, place, scope, places)
		}
	}
}

// checkPlaces: promise 14, of what Check calls NmDone.
func checkPlaces(t *testing.T, what string, n impl.Node) {
	t.Helper()
	parts, all := funParts(n), impl.Funs(n)
	if len(parts) != len(all) {
		t.Fatalf("%s: %d functions, want %d", what, len(all), len(parts))
	}
	for in, part := range parts {
		scopes := aboutOf(parts, all, in)
		if len(scopes[len(scopes)-1]) > 12 {
			t.Errorf("%s: %d vars", what, len(scopes[len(scopes)-1]))
		}
		for place, name := range part.declares() {
			checkFind(t, scopes, name, 0, place, true)
			checkOnePlace(t, what, scopes, name)
		}
		for _, name := range part.uses() {
			checkOnePlace(t, what, scopes, name)
		}
	}
}

// checkNames: all that the chapter tells of a tree, as the tests reckon it; and what Check tells.
func checkNames(t *testing.T, n impl.Node) int {
	t.Helper()
	what := treeText(n)
	checkVars(t, what, n, wantVars(n)...)
	if got, want := treeTexts(impl.Funs(n)), wantFuns(n); !slices.Equal(got, want) {
		t.Errorf("%.300s: Funs %.500q, want %.500q", what, got, want)
	}
	want := wantCheck(n)
	checkCode(t, what, n, want)
	if want == 0 {
		checkPlaces(t, what, n)
	}
	return want
}

func mustParse(t *testing.T, src string) impl.Node {
	t.Helper()
	n, bad := impl.Parse(src)
	if bad != -1 {
		t.Fatalf("%q: %d", src, bad)
	}
	return n
}

// checkSource: what Check tells of a program is said by hand; the reckoning must say it too.
func checkSource(t *testing.T, src string, want int) {
	t.Helper()
	if got := checkNames(t, mustParse(t, src)); got != want {
		t.Errorf("%q: %d, want %d", src, got, want)
	}
}

func TestP14Constants(t *testing.T) {
	if impl.MaxFuns != 40 || impl.NmDone != 0 || impl.NmBad != 1 || impl.NmTwice != 2 || impl.NmMany != 3 || impl.NmNone != 4 {
		t.Error("constants")
	}
}

// Each use of a name, by hand: "number of the function: name depth place".
func TestP14WhereNamesStand(t *testing.T) {
	cases := map[string][]string{
		"let a = 1; print a; a = a + 2;":                                                 {"0: a 0 0", "0: a 0 0", "0: a 0 0"},
		"let a = 1; let b = 2; let c = b; a = c;":                                        {"0: b 0 1", "0: a 0 0", "0: c 0 2"},
		"if (a) { let b = 1; } else { let c = b; } while (c) { let a = d; } let d = b;":  {"0: a 0 2", "0: b 0 0", "0: c 0 1", "0: d 0 3", "0: b 0 0"},
		"let a = 1; let f = function(b) { return a + b; }; f(a);":                        {"0: f 0 1", "0: a 0 0", "1: a 1 0", "1: b 0 0"},
		"let f = function(f) { return f; }; f(f);":                                       {"0: f 0 0", "0: f 0 0", "1: f 0 0"},
		"let f = function() { f = f(); }; f = 1;":                                        {"0: f 0 0", "1: f 1 0", "1: f 1 0"},
		"let a = 1; let f = function() { a = 2; let a = 3; a = 4; };":                    {"1: a 0 0", "1: a 0 0"},
		"let f = function(x, y) { let z = 1; if (x) { let w = z; } w = y; };":            {"1: x 0 0", "1: z 0 2", "1: w 0 3", "1: y 0 1"},
		"let f = function() { return q; }; if (1) { let q = 1; }":                        {"1: q 1 1"},
		"let a = {a: function(b) { b.a = {b: a}; }};":                                    {"1: b 0 0", "1: a 1 0"},
		"function(a) { function(b) { function(c) { a = b(c); }; b; }; a; };":             {"1: a 0 0", "2: b 0 0", "3: a 2 0", "3: b 1 0", "3: c 0 0"},
		"function(a) { function(b) { a = b; }; function(c) { c = a; }; }; let d = 1; d;": {"0: d 0 0", "2: a 1 0", "2: b 0 0", "3: c 0 0", "3: a 1 0"},
		"let x = 1; function(x) { function(x) { x; }; x; }; x;":                          {"0: x 0 0", "1: x 0 0", "2: x 0 0"},
		"let x = 1; function() { function() { x; }; let x = 1; }; function() { x; };":    {"2: x 1 0", "3: x 1 0"},
	}
	for src, want := range cases {
		checkSource(t, src, 0)
		n := mustParse(t, src)
		parts, all := funParts(n), impl.Funs(n)
		var got []string
		for in, part := range parts {
			for _, name := range part.uses() {
				depth, place, _ := impl.Find(aboutOf(parts, all, in), name)
				got = append(got, strconv.Itoa(in)+": "+name+" "+strconv.Itoa(depth)+" "+strconv.Itoa(place))
			}
		}
		if !slices.Equal(got, want) {
			t.Errorf("%q: %q, want %q", src, got, want)
		}
	}
}

func TestP14VarsByHand(t *testing.T) {
	cases := map[string][]string{
		"":                                 nil,
		"x = 1; y;":                        nil,
		"let x = 1;":                       {"x"},
		"let x = 1; let y = 2; let z = 3;": {"x", "y", "z"},
		"let z = 1; let y = 2; let x = 3;": {"z", "y", "x"},
		"let x = 1; let x = 2;":            {"x"},
		"let x = 1; let y = 1; let x = 2; let z = 1; let y = 3;": {"x", "y", "z"},
		"if (1) { let x = 1; }":                                  {"x"},
		"if (1) { let x = 1; } else { let y = 1; }":              {"x", "y"},
		"if (1) { } else { let y = 1; } let x = 1;":              {"y", "x"},
		"while (1) { let x = 1; }":                               {"x"},
		"let a = 1; while (1) { let b = 1; if (1) { let c = 1; } else { while (1) { let d = 1; } } } let e = 1;":                                       {"a", "b", "c", "d", "e"},
		"while (1) { let b = 1; let a = 1; } let a = 1; let b = 1;":                                                                                    {"b", "a"},
		"let f = function(p) { let q = 1; };":                                                                                                          {"f"},
		"function(p) { let q = 1; }; let r = 1;":                                                                                                       {"r"},
		"if (function() { let a = 1; }) { let b = function() { let c = 1; }; }":                                                                        {"b"},
		"let a = function() { let b = function() { let a = 1; let c = 1; }; }; let d = {e: function() { let g = 1; }}; f(function(h) { let i = 1; });": {"a", "d"},
		"return function() { let a = 1; }; x.y = function() { let b = 1; }; x = function() { let c = 1; };":                                            nil,
	}
	for src, want := range cases {
		n := mustParse(t, src)
		checkVars(t, src, n, want...)
		f := nodeOf(impl.NdFun, "", n)
		checkVars(t, "function() of "+src, f, want...)
		f.S = "nn x"
		checkVars(t, "function(nn, x) of "+src, f, append([]string{"nn", "x"}, slices.DeleteFunc(slices.Clone(want), func(name string) bool { return name == "x" })...)...)
		checkVars(t, "a function within a block of "+src, node(impl.NdBlock, node(impl.NdDo, f)))
	}
}

// namesCases: S of an NdFun, and its names. Each blank stands between two, whatever these are; an empty S has none.
func namesCases() map[string][]string {
	return map[string][]string{
		"": nil, "a": {"a"}, "ab": {"ab"}, "a b": {"a", "b"}, "b a": {"b", "a"}, "a b c": {"a", "b", "c"}, "a a": {"a"}, "a b a": {"a", "b"}, "b a b a c": {"b", "a", "c"},
		"a  b": {"a", "", "b"}, " ": {""}, "  ": {""}, " a": {"", "a"}, "a ": {"a", ""}, "a   b": {"a", "", "b"}, " a  a ": {"", "a"},
		"a,b": {"a,b"}, "a, b": {"a,", "b"}, "a\tb": {"a\tb"}, "a\nb": {"a\nb"}, "a\u00a0b": {"a\u00a0b"}, "a\u2003b \x85": {"a\u2003b", "\x85"}, "\x00 \xff": {"\x00", "\xff"},
		"let 1 proto": {"let", "1", "proto"}, "A a": {"A", "a"}, "abcdefghijklm abcdefghijkl": {"abcdefghijklm", "abcdefghijkl"},
	}
}

func TestP14VarsOfNames(t *testing.T) {
	lets := func(names ...string) impl.Node {
		n := node(impl.NdBlock)
		for _, name := range names {
			n.Kids = append(n.Kids, nodeOf(impl.NdLet, name, numNode(1)))
		}
		return n
	}
	for s, want := range namesCases() {
		checkVars(t, s, nodeOf(impl.NdFun, s), want...)
		checkVars(t, s, nodeOf(impl.NdFun, s, node(impl.NdBlock)), want...)
		checkVars(t, s, nodeOf(impl.NdFun, s, lets(slices.Concat(want, want)...)), want...)
		checkVars(t, s, nodeOf(impl.NdFun, s, lets("zz", "yy", "zz")), append(slices.Clone(want), "zz", "yy")...)
		for _, op := range anyOps() {
			if op != impl.NdFun {
				checkVars(t, s, nodeOf(op, s, numNode(1)))
				checkVars(t, s, nodeOf(op, s, lets("q", "p")), "q", "p")
			}
		}
		// The S of a let is one name, whatever it is.
		checkVars(t, s, lets(s, "x", s), slices.Compact([]string{s, "x"})...)
	}
	checkVars(t, "names and lets", nodeOf(impl.NdFun, "b a", lets("c", "a", "d", "b", "c")), "b", "a", "c", "d")
	checkVars(t, "an empty let behind an empty name", nodeOf(impl.NdFun, "a  b", lets("", "c")), "a", "", "b", "c")
	checkVars(t, "an empty let", nodeOf(impl.NdFun, "", lets("", "c", "")), "", "c")
}

// Lets count wherever they stand within, but for those within an NdFun; a let itself is not within it.
func TestP14VarsOfAnyOp(t *testing.T) {
	let := nodeOf(impl.NdLet, "x", numNode(1))
	for _, op := range anyOps() {
		n := impl.Node{Op: op}
		checkVars(t, "no kids", n)
		n.Kids = []impl.Node{}
		checkVars(t, "an empty list", n)
		checkVars(t, "one let", node(op, let), "x")
		checkVars(t, "a let behind others", node(op, numNode(1), node(impl.NdBlock), nodeOf(impl.NdLet, "y"), let), "y", "x")
		checkVars(t, "a function", node(op, node(impl.NdFun, let), node(impl.NdFun, node(impl.NdBlock, let))))
		inner := node(impl.NdBlock, node(op, let, nodeOf(impl.NdLet, "y", let)), nodeOf(impl.NdLet, "z"))
		switch op {
		case impl.NdFun:
			checkVars(t, "further in", inner, "z")
		case impl.NdLet:
			checkVars(t, "further in", inner, "", "x", "y", "z")
		default:
			checkVars(t, "further in", inner, "x", "y", "z")
		}
		checkVars(t, "an S and an N", impl.Node{Op: op, S: "", N: 7, Kids: []impl.Node{let}}, "x")
	}
	checkVars(t, "a let itself", let)
	checkVars(t, "a let with lets in it", nodeOf(impl.NdLet, "x", nodeOf(impl.NdLet, "y", nodeOf(impl.NdLet, "z"))), "y", "z")
	for where, n := range standingAt(node(impl.NdBlock, nodeOf(impl.NdLet, "y", numNode(1)))) {
		switch where {
		case "fun", "statement of fun":
			checkVars(t, where, n)
		case "let":
			checkVars(t, where, n, "x", "y")
		default:
			checkVars(t, where, n, "y")
		}
	}
	rnd := &dice{141}
	for range 3000 {
		n := anyNamedTree(rnd, 1+rnd.below(6))
		checkVars(t, treeText(n), n, wantVars(n)...)
	}
}

// anyNamedTree: any ops, many of them lets and functions, with few names.
func anyNamedTree(rnd *dice, deep int) impl.Node {
	n := anyTree(rnd, 1)
	texts := []string{"a", "b", "c", "", "a b", "b  c", " ", "a\tb"}
	if rnd.below(3) > 0 {
		n.S = texts[rnd.below(len(texts))]
	}
	switch rnd.below(6) {
	case 0, 1:
		n.Op = impl.NdLet
	case 2:
		n.Op = impl.NdFun
	case 3:
		n.Op = impl.NdBlock
	}
	if deep > 1 {
		for range rnd.below(5) {
			n.Kids = append(n.Kids, anyNamedTree(rnd, deep-1))
		}
	}
	return n
}

func TestP14Find(t *testing.T) {
	checkFind(t, nil, "a", 0, 0, false)
	checkFind(t, nil, "", 0, 0, false)
	checkFind(t, [][]string{}, "a", 0, 0, false)
	checkFind(t, [][]string{nil}, "a", 0, 0, false)
	checkFind(t, [][]string{{}, nil, {}}, "a", 0, 0, false)
	checkFind(t, [][]string{{}, nil, {}}, "", 0, 0, false)
	checkFind(t, [][]string{{"a"}}, "a", 0, 0, true)
	checkFind(t, [][]string{{"a"}}, "b", 0, 0, false)
	checkFind(t, [][]string{{"a"}}, "", 0, 0, false)
	checkFind(t, [][]string{{"a"}}, "A", 0, 0, false)
	checkFind(t, [][]string{{"a"}}, "aa", 0, 0, false)
	checkFind(t, [][]string{{"aa"}}, "a", 0, 0, false)
	checkFind(t, [][]string{{"a", "b", "c"}}, "c", 0, 2, true)
	checkFind(t, [][]string{{"a"}, {"b"}, {"c"}}, "a", 2, 0, true)
	checkFind(t, [][]string{{"a"}, {"b"}, {"c"}}, "b", 1, 0, true)
	checkFind(t, [][]string{{"a"}, {"b"}, {"c"}}, "c", 0, 0, true)
	checkFind(t, [][]string{{"a"}, {}, nil, {}}, "a", 3, 0, true)
	checkFind(t, [][]string{{}, {"x", "a"}, nil}, "a", 1, 1, true)
	checkFind(t, [][]string{{"a", "b"}, {"c", "a"}}, "a", 0, 1, true)
	checkFind(t, [][]string{{"a"}, {"b", "a"}, {"c", "d", "a"}}, "a", 0, 2, true)
	checkFind(t, [][]string{{"a"}, {"b", "a"}, {"c", "d", "e"}}, "a", 1, 1, true)
	checkFind(t, [][]string{{"b", "a", "a"}}, "a", 0, 1, true)
	checkFind(t, [][]string{{"a", "b"}, {"c", "a", "b", "a"}}, "a", 0, 1, true)
	checkFind(t, [][]string{{"a", ""}, {"b"}}, "", 1, 1, true)
	checkFind(t, [][]string{{"a b"}, {"a\x00", "\xff"}}, "\xff", 0, 1, true)
	checkFind(t, [][]string{{"a b"}, {"a\x00", "\xff"}}, "a b", 1, 0, true)
	checkFind(t, [][]string{{"a b"}, {"a\x00", "\xff"}}, "b", 0, 0, false)
	var far [][]string
	for i := range 1000 {
		far = append(far, []string{"n" + strconv.Itoa(i), "s", "n" + strconv.Itoa(i)})
	}
	for i := range 1000 {
		checkFind(t, far, "n"+strconv.Itoa(i), 999-i, 0, true)
	}
	checkFind(t, far, "s", 0, 1, true)
	checkFind(t, far, "n1000", 0, 0, false)
}

func TestP14FindInAnyScopes(t *testing.T) {
	rnd := &dice{142}
	names := append(oddTexts(), "b", "c", "d", "e")
	found := 0
	for range 5000 {
		var scopes [][]string
		for range rnd.below(6) {
			var scope []string
			for range rnd.below(5) {
				scope = append(scope, names[rnd.below(len(names))])
			}
			scopes = append(scopes, scope)
		}
		for range 5 {
			name := names[rnd.below(len(names))]
			depth, place, ok := wantFind(scopes, name)
			checkFind(t, scopes, name, depth, place, ok)
			if ok {
				found++
			}
		}
	}
	if found < 1000 {
		t.Error("too few:", found)
	}
}

// namesOfFuns: the names of each function, as they stand in S.
func namesOfFuns(n impl.Node) []string {
	var out []string
	for _, f := range impl.Funs(n) {
		out = append(out, f.S)
	}
	return out
}

func TestP14FunsInOrder(t *testing.T) {
	cases := map[string][]string{
		"":               {""},
		"x;":             {""},
		"function(a){};": {"", "a"},
		"function(b){}; function(a){}; function(c){};":                                                          {"", "b", "a", "c"},
		"function(a){ function(b){ function(c){}; }; function(d){}; }; function(e){};":                          {"", "a", "b", "c", "d", "e"},
		"let x = function(a){}; x = function(b){}; x.y = function(c){}; print function(d){};":                   {"", "a", "b", "c", "d"},
		"function(a){}.p = function(b){};":                                                                      {"", "a", "b"},
		"return function(a, b){ return function(c){}; };":                                                       {"", "a b", "c"},
		"if (function(a){}) { function(b){}; } else { function(c){}; }":                                         {"", "a", "b", "c"},
		"while (function(a){}) { function(b){}; } function(c){};":                                               {"", "a", "b", "c"},
		"f(function(a){}, 1, function(b){}, function(c){ function(d){}; }, function(e){});":                     {"", "a", "b", "c", "d", "e"},
		"function(a){ function(b){}; }(function(c){}, function(d){})(function(e){});":                           {"", "a", "b", "c", "d", "e"},
		"{p: function(a){}, q: {r: function(b){ {s: function(c){}}; }}, t: function(d){}};":                     {"", "a", "b", "c", "d"},
		"function(a){} + function(b){} * function(c){} < function(d){} - function(e){};":                        {"", "a", "b", "c", "d", "e"},
		"!function(a){} == !function(b){};":                                                                     {"", "a", "b"},
		"function(a){}.b.c;":                                                                                    {"", "a"},
		"function(a){}; function(a){}; function(a){ function(a){}; };":                                          {"", "a", "a", "a", "a"},
		"function(a){ if (function(b){}) { while (function(c){}) { return function(d){}; } } function(e){}; };": {"", "a", "b", "c", "d", "e"},
		"function(x, x){}; q; let y = 1; let y = 2;":                                                            {"", "x x"},
	}
	for src, want := range cases {
		n := mustParse(t, src)
		if got := namesOfFuns(n); !slices.Equal(got, want) {
			t.Errorf("%q: %q, want %q", src, got, want)
		}
		all := impl.Funs(n)
		if treeText(all[0]) != treeText(n) {
			t.Errorf("%q: the first one is %s", src, treeText(all[0]))
		}
		checkNames(t, n)
	}
	// at each place where an expr belongs, ahead of one behind all
	f := nodeOf(impl.NdFun, "a", node(impl.NdBlock, node(impl.NdDo, nodeOf(impl.NdFun, "b", node(impl.NdBlock)))))
	for _, where := range belongs("e") {
		n := standingAt(f)[where]
		n.Kids = append(n.Kids, node(impl.NdDo, nodeOf(impl.NdFun, "c", node(impl.NdBlock))))
		if got := namesOfFuns(n); !slices.Equal(got, []string{"", "a", "b", "c"}) {
			t.Errorf("%s: %q", where, got)
		}
		checkNames(t, n)
	}
}

func checkNothing(t *testing.T, what string, n impl.Node) {
	t.Helper()
	if got := impl.Funs(n); len(got) != 0 {
		t.Errorf("%s: %d functions", what, len(got))
	}
	checkCode(t, what, n, 1)
}

func TestP14OfWhatIsNotRight(t *testing.T) {
	f := nodeOf(impl.NdFun, "a", node(impl.NdBlock))
	wrong := map[string]impl.Node{
		"zero": {}, "a function": f, "a number": numNode(1), "a let": nodeOf(impl.NdLet, "x", numNode(1)), "a block of an expr": node(impl.NdBlock, f),
		"an S": nodeOf(impl.NdBlock, "x"), "an N": {Op: impl.NdBlock, N: 1}, "a word": node(impl.NdBlock, nodeOf(impl.NdLet, "let", f)),
		"two blanks":    node(impl.NdBlock, node(impl.NdDo, nodeOf(impl.NdFun, "a  b", node(impl.NdBlock)))),
		"an empty name": node(impl.NdBlock, nodeOf(impl.NdLet, "", f)), "no block": node(impl.NdBlock, node(impl.NdDo, nodeOf(impl.NdFun, "a"))),
		"too great": filledTree(node(impl.NdDo, f), 201),
	}
	for what, n := range wrong {
		checkNothing(t, what, n)
		checkNames(t, n)
	}
	if got := impl.Funs(filledTree(node(impl.NdDo, f), 200)); len(got) != 2 {
		t.Error("at most so great:", len(got))
	}
	// what is not right counts ahead of all else, wherever it stands
	for _, src := range []string{"let x = 1; let x = 2;", "q;", "function(a, a){};", manyLets("m", 13), "function() { q; };"} {
		n := mustParse(t, src)
		if impl.Check(n) < 2 {
			t.Error(src)
		}
		n.Kids = append(n.Kids, node(impl.NdDo, nodeOf(impl.NdName, "5")))
		checkNothing(t, src, n)
		n.Kids[len(n.Kids)-1] = node(impl.NdDo, node(impl.NdFun, node(impl.NdBlock, node(impl.NdDo, node(impl.NdNot)))))
		checkNothing(t, src, n)
		checkNothing(t, src, node(impl.NdBlock, impl.Node{Op: 28}, mustParse(t, src).Kids[0]))
	}
	for _, src := range wholePrograms() {
		n := mustParse(t, src)
		for i := range nodesOf(&n) {
			turned := roomy(n)
			nodesOf(&turned)[i].N += 1 << 33
			checkNothing(t, src, turned)
		}
	}
}

// manyLets: so many, of different names.
func manyLets(name string, count int) string {
	out := ""
	for i := range count {
		out += "let " + name + strconv.Itoa(i) + "=1;"
	}
	return out
}

func manyNames(name string, count int) string {
	var out []string
	for i := range count {
		out = append(out, name+strconv.Itoa(i))
	}
	return strings.Join(out, ",")
}

func TestP14Done(t *testing.T) {
	for _, src := range []string{
		"", "1;", "let x = 1;", "let x = x;", "x = 1; let x = 2;", "print x; if (1) { let x = 1; }", "if (x) { } else { let x = 1; }", "while (x) { let x = x; }",
		"let f = function(a, b) { return a + b; }; f(1, 2);", "let f = function() { return f; };", "let f = function() { x = 1; }; let x = 2;",
		"function(a) { return function() { return function() { a = 1; }; }; };", "let a = 1; function(a) { let b = a; }; function(a) { let b = a; };",
		"let a = 1; function() { let a = a; function() { let a = a; }; };", "let o = {}; o.zz = o.yy.proto; o.proto = {zz: 1, yy: o}; o.zz(o);", `print "zz";`,
		"let a = 1; function(b) { let c = 1; a = b; function(d) { a = b + c + d; }; };",
		"function() { return x; }; while (0) { if (0) { } else { let x = 1; } }", "let b = function(b) { b; }; b;", "f(); let f = function() { };",
		"let print1 = 1; print print1;", "let A = 1; let a = 2; a = A;", "function() { function() { y; }; if (0) { let y = 1; } };",
	} {
		checkSource(t, src, 0)
	}
}

func TestP14Twice(t *testing.T) {
	for _, src := range []string{
		"let x = 1; let x = 2;", "let x = 1; let y = 2; let x = 3;", "let x = 1; if (1) { let x = 2; }", "if (1) { let x = 1; } let x = 2;", "if (1) { let x = 1; } else { let x = 2; }",
		"while (1) { let x = 1; } while (1) { let x = 2; }", "while (1) { let x = 1; let x = 2; }", "if (1) { if (1) { let x = 1; } } while (1) { if (1) { } else { let x = 2; } }",
		"let x = function() { }; let x = function() { };", "function(x, x) { };", "function(x, y, x) { };", "function(y, x, x) { };", "function(x) { let x = 1; };",
		"function(x, y) { if (1) { let y = 1; } };", "function(x) { while (1) { if (1) { } else { let x = 1; } } };", "function() { let x = 1; let x = 2; };",
		"function() { function(x, x) { }; };", "let f = {p: function(x, x) { }};", "f(function(x) { let x = 1; }); let f = 1;", "if (function(x, x) { }) { }",
		"let x = 1; function() { let x = 1; function() { let x = 1; let x = 2; }; };",
	} {
		checkSource(t, src, 2)
	}
	// not in the same function
	for _, src := range []string{
		"let x = 1; function() { let x = 1; };", "function() { let x = 1; }; let x = 1;", "function() { let x = 1; }; function() { let x = 1; };", "let x = 1; function(x) { };",
		"function(x) { function(x) { let y = 1; }; let y = 1; };", "let x = function(x) { };", "function(x) { function() { let x = 1; }; };", "if (function() { let x = 1; }) { let x = 1; }",
		"let x = {x: function(y) { y.x = 1; }}; x.x = x.x(x);", "let x = 1; x = 2; x = 3; print x; print x;",
	} {
		checkSource(t, src, 0)
	}
}

func TestP14None(t *testing.T) {
	for _, src := range []string{
		"q;", "q = 1;", "print q;", "return q;", "let a = q;", "a = q; let a = 1;", "if (q) { }", "if (1) { q; }", "if (1) { } else { q = 1; }", "while (q) { }", "while (1) { print q; }",
		"q.a;", "q.a = 1;", "1.a = q;", "q();", "1(q);", "1(1, q);", "q + 1;", "1 - q;", "q * 1;", "1 < q;", "q == 1;", "!q;", "{a: q};", "{q: 1, b: q};", "function() { q; };",
		"function(a) { q = a; };", "function(a) { }; a;", "function() { let a = 1; }; a;", "function(a) { }; function() { a; };", "function() { a; }; function(a) { };",
		"function() { function(a) { }; a; };", "function() { let a = 1; }; function() { print a; };", "function() { print a; }; function() { let a = 1; };", "let a = function(b) { }; b;",
		"let q1 = 1; q;", "let q = 1; Q;", "let o = {q: 1}; o.q = 1; q;", `let a = "q"; q;`, "function(a) { function(b) { function(c) { }; c; }; };",
		"function(a) { function(b) { }; function(c) { b; }; };", "let f = function(a) { return a; }; f(a);", "{a: 1}; a;", "let a = {b: function() { b; }};",
	} {
		checkSource(t, src, 4)
	}
	for where, n := range standingAt(nodeOf(impl.NdName, "q")) {
		if slices.Contains(belongs("e"), where) {
			n.Kids = append(n.Kids, nodeOf(impl.NdLet, "a", numNode(1)))
			if where == "set" {
				n.Kids = append(n.Kids, nodeOf(impl.NdLet, "x", numNode(1)))
			}
			checkCode(t, where, n, 4)
			n.Kids = append(n.Kids, nodeOf(impl.NdLet, "q", numNode(1)))
			checkCode(t, where, n, 0)
			checkNames(t, n)
		}
	}
}

// So many names and lets in one function.
func TestP14HowManyVars(t *testing.T) {
	for names := range 16 {
		for lets := range 16 {
			want := 0
			if names+lets > 12 {
				want = 3
			}
			half, rest := manyLets("b", lets/2), manyLets("c", lets-lets/2)
			body := half + rest
			f := "function(" + manyNames("a", names) + "){" + body + "};"
			checkSource(t, f, want)
			checkSource(t, "function(){"+f+"};", want)
			checkSource(t, "function("+manyNames("a", names)+"){if(1){"+half+"}else{while(1){"+rest+"}}};", want)
			if names == 0 {
				checkSource(t, body, want)
				checkSource(t, "while(1){"+half+"}"+rest, want)
			}
		}
	}
	// those of other functions do not count
	full := manyLets("x", 12)
	checkSource(t, full+"function(){"+full+"};", 0)
	checkSource(t, full+"function("+manyNames("x", 12)+"){x0;};x11;", 0)
	checkSource(t, full+"function(){x11;};", 0)
	checkSource(t, "function(){"+full+"}; function(){"+full+"}; function("+manyNames("y", 12)+"){ function("+manyNames("y", 12)+"){}; };", 0)
	checkSource(t, full+"let y=function(){};", 3)
	checkSource(t, full+"function(){"+full+"let y=1;};", 3)
	// a name that stands twice counts ahead of how many there are
	checkSource(t, full+"let x11=1;", 2)
	checkSource(t, full+full, 2)
	checkSource(t, manyLets("x", 13)+"let x0=1;", 2)
	checkSource(t, "function("+manyNames("x", 30)+"){};", 3)
	checkSource(t, "function("+manyNames("x", 30)+",x0){};", 2)
	checkSource(t, "function("+manyNames("x", 30)+"){let x29=1;};", 2)
}

// emptyFun: a statement that is a function and does nothing.
func emptyFun() impl.Node { return node(impl.NdDo, node(impl.NdFun, node(impl.NdBlock))) }

// withFuns: as many functions in all, those that are more behind the rest.
func withFuns(n impl.Node, want int) impl.Node {
	n = roomy(n)
	for len(funParts(n)) < want {
		n.Kids = append(n.Kids, emptyFun())
	}
	return n
}

func TestP14HowManyFuns(t *testing.T) {
	for count := 1; count <= 60; count++ {
		want := 0
		if count > 40 {
			want = 3
		}
		n := withFuns(node(impl.NdBlock), count)
		checkCode(t, "side by side", n, want)
		if got := len(impl.Funs(n)); got != count {
			t.Errorf("%d functions, want %d", got, count)
		}
		checkNames(t, n)
		checkSource(t, strings.Repeat("function(){};", count-1), want)
		call := node(impl.NdCall, numNode(1))
		for range count - 1 {
			call.Kids = append(call.Kids, node(impl.NdFun, node(impl.NdBlock)))
		}
		checkCode(t, "handed in", node(impl.NdBlock, node(impl.NdDo, call)), want)
		within := node(impl.NdFun, node(impl.NdBlock))
		for range count - 2 {
			within.Kids[0].Kids = append(within.Kids[0].Kids, emptyFun())
		}
		if count > 1 {
			checkCode(t, "within one", node(impl.NdBlock, node(impl.NdDo, within)), want)
		}
		rows := mustParse(t, "function(){function(){function(){};};};")
		checkCode(t, "within each other", withFuns(rows, count), want)
	}
	// functions too many are so at the first one: behind what stands there twice, ahead of all else
	cases := map[string]int{
		"": 3, "q;": 3, "let x=1;let x=2;": 2, "let x=1;let x=2;q;": 2, "function(){q;};": 3, "function(x,x){};": 3, "function(x){let x=1;};": 3, "function(){let x=1;let x=2;};": 3,
		"function(x,x){};q;": 3, "function(x,x){};let x=1;let x=1;": 2,
	}
	for src, want := range cases {
		n := mustParse(t, src)
		few := impl.Check(n)
		checkCode(t, src+" and 40", withFuns(n, 40), few)
		checkCode(t, src+" and 41", withFuns(n, 41), want)
		checkCode(t, src+" and 55", withFuns(n, 55), want)
		checkNames(t, withFuns(n, 40))
		checkNames(t, withFuns(n, 41))
	}
	full := mustParse(t, manyLets("x", 13))
	checkCode(t, "both", withFuns(full, 41), 3)
	checkCode(t, "vars alone", withFuns(full, 40), 3)
	// the last of so many is asked too
	for _, src := range []string{"function(x,x){};", "function(){q;};", "function(){" + manyLets("x", 13) + "};"} {
		n := mustParse(t, src)
		want := impl.Check(n)
		late := withFuns(node(impl.NdBlock), 39)
		late.Kids = append(late.Kids, n.Kids...)
		checkCode(t, "last: "+src, late, want)
		late.Kids = append([]impl.Node{emptyFun()}, late.Kids...)
		checkCode(t, "last of too many: "+src, late, 3)
	}
}

// faultSlots: where a fault may stand in faultForm, and the number of the function there.
func faultSlots() map[string]int {
	return map[string]int{"A": 0, "B": 1, "C": 2, "D": 1, "E": 0, "F": 3, "G": 4, "H": 3, "I": 0}
}

const faultForm = "A function(){ B while(1){ function(){ C }; D } }; E if (function(){ F return function(){ G }; H }) { I }"

// fault: statements that Check answers with that code, by themselves and where others have other names.
func fault(code int, slot string, kind int) string {
	twice := []string{"let @=1;let @=2;", "if(1){let @=1;}else{let @=2;}", "while(1){let @=1;}let @=2;"}
	none := []string{"q;", "q=1;", "if(1){print !q;}"}
	switch code {
	case impl.NmTwice:
		return strings.ReplaceAll(twice[kind], "@", "t"+slot)
	case impl.NmMany:
		return manyLets("m"+slot, 13+kind)
	}
	return none[kind]
}

// faultProgram: the form with what stands at some of its slots.
func faultProgram(at map[string]string) string {
	var marks []string
	for slot := range faultSlots() {
		marks = append(marks, slot, at[slot])
	}
	return strings.NewReplacer(marks...).Replace(faultForm)
}

// TestP14WhichComesFirst: two faults at any two slots. That of the function with the lower number comes first; within one function the lower code.
func TestP14WhichComesFirst(t *testing.T) {
	checkSource(t, faultProgram(nil), 0)
	codes := []int{impl.NmTwice, impl.NmMany, impl.NmNone}
	for slot, in := range faultSlots() {
		for _, code := range codes {
			for kind := range 3 {
				checkSource(t, faultProgram(map[string]string{slot: fault(code, slot, kind)}), code)
			}
			for other, beside := range faultSlots() {
				for _, second := range codes {
					want := code
					if beside < in || beside == in && second < code {
						want = second
					}
					kind := (in + beside + code + second) % 3
					at := map[string]string{slot: fault(code, slot, kind)}
					at[other] += fault(second, other+"2", (kind+1)%3)
					checkSource(t, faultProgram(at), want)
					for _, funs := range []int{40, 41} {
						n := withFuns(mustParse(t, faultProgram(at)), funs)
						if funs == 41 && (want != 2 || min(in, beside) > 0) {
							want = 3
						}
						checkCode(t, strconv.Itoa(funs)+" functions: "+faultProgram(at), n, want)
					}
				}
			}
		}
	}
}

// The faults of names: which one of a function's own comes first, and that it comes behind what is wrong about it.
func TestP14FaultsOfNames(t *testing.T) {
	thirteen := manyNames("x", 13)
	cases := map[string]int{
		"function(a, a) { q; };": 2, "q; function(a, a) { };": 4, "function(a, a) { }; q;": 4, "function(a, a) { }; function() { q; };": 2, "function() { q; }; function(a, a) { };": 4,
		"function() { q; function(a, a) { }; };": 4, "function() { function(a, a) { }; q; };": 4, "function(a, a) { function() { q; }; };": 2, "function(a) { function() { q; }; let a = 1; };": 2,
		"function(" + thirteen + ",x0) { q; };": 2, "function(" + thirteen + ") { q; };": 3, "function(" + thirteen + ") { function(a, a) { }; };": 3, "function(a, a) { function(" + thirteen + ") { }; };": 2,
		"function(" + thirteen + ") { }; function(a, a) { };": 3, "function(a, a) { }; function(" + thirteen + ") { };": 2, "function(" + thirteen + ") { }; q;": 4,
		"function() { q; }; function(" + thirteen + ") { };": 4, "function(" + thirteen + ") { }; function() { q; };": 3, "let a = 1; function(a, a) { }; let a = 2; q;": 2,
	}
	for src, want := range cases {
		checkSource(t, src, want)
	}
}

// Functions side by side, within the same ones, see their own names and not each other's.
func TestP14SideBySide(t *testing.T) {
	for deep := range 5 {
		ahead, behind := "", ""
		for i := range deep {
			ahead += "function(o" + strconv.Itoa(i) + "){"
			behind += "};"
		}
		sees := "r=1;"
		for i := range deep {
			sees += "o" + strconv.Itoa(i) + ";"
		}
		many := ""
		for i := range 6 {
			one := "s" + strconv.Itoa(i)
			many += "function(" + one + "){" + one + ";" + sees + "};"
		}
		checkSource(t, "let r=1;"+ahead+many+behind, 0)
		for i := range 6 {
			one := "s" + strconv.Itoa(i)
			for j := range 6 {
				other := strings.Replace(many, one+";", "s"+strconv.Itoa(j)+";", 1)
				want := 0
				if i != j {
					want = 4
				}
				checkSource(t, "let r=1;"+ahead+other+behind, want)
			}
		}
		checkSource(t, "let r=1;"+ahead+many+"s0;"+behind, 4)
	}
}

// namer makes programs whose names are few, so that they meet; one in wild of them is any.
type namer struct {
	rnd  *dice
	pool int
	wild int
	lets int
}

// named: what a function may still declare, and what is declared in it and about it.
type named struct{ fresh, seen []string }

func (m *namer) any() string { return "n" + strconv.Itoa(m.rnd.below(m.pool)) }

func (m *namer) fresh(f *named) string {
	if len(f.fresh) == 0 || m.rnd.below(m.wild) == 0 {
		return m.any()
	}
	name := f.fresh[0]
	f.fresh = f.fresh[1:]
	f.seen = append(f.seen, name)
	return name
}

func (m *namer) seen(f *named) string {
	if len(f.seen) == 0 || m.rnd.below(m.wild) == 0 {
		return m.any()
	}
	return f.seen[m.rnd.below(len(f.seen))]
}

func (m *namer) open(about named) named {
	f := named{seen: slices.Clone(about.seen)}
	for _, i := range shuffled(m.rnd, m.pool) {
		f.fresh = append(f.fresh, "n"+strconv.Itoa(i))
	}
	return f
}

func (m *namer) function(about named, deep int) impl.Node {
	f := m.open(about)
	var names []string
	for range m.rnd.below(4) {
		names = append(names, m.fresh(&f))
	}
	return nodeOf(impl.NdFun, strings.Join(names, " "), m.block(&f, deep-1))
}

func (m *namer) expr(f *named, deep int) impl.Node {
	if deep <= 1 {
		return numNode(m.rnd.below(5))
	}
	switch m.rnd.below(9) {
	case 0, 1:
		if len(f.seen) > 0 {
			return nodeOf(impl.NdName, m.seen(f))
		}
	case 2, 3:
		return m.function(*f, deep-1)
	case 4:
		return node(impl.NdAdd, m.expr(f, deep-1), m.expr(f, deep-1))
	case 5:
		return node(impl.NdCall, m.expr(f, deep-1), m.expr(f, deep-2), m.expr(f, deep-1))
	case 6:
		return node(impl.NdObj, nodeOf(impl.NdPair, m.any(), m.expr(f, deep-2)), nodeOf(impl.NdPair, m.any(), m.expr(f, deep-1)))
	case 7:
		return nodeOf(impl.NdGet, m.any(), m.expr(f, deep-1))
	}
	return node(impl.NdNot, m.expr(f, deep-1))
}

func (m *namer) statement(f *named, deep int) impl.Node {
	if m.rnd.below(10) < m.lets {
		return nodeOf(impl.NdLet, m.fresh(f), m.expr(f, deep-1))
	}
	switch m.rnd.below(6) {
	case 0:
		if deep > 2 {
			return node(impl.NdIf, m.expr(f, deep-2), m.block(f, deep-1), m.block(f, deep-1))
		}
	case 1:
		if deep > 2 {
			return node(impl.NdWhile, m.expr(f, deep-2), m.block(f, deep-1))
		}
	case 2:
		if len(f.seen) > 0 {
			return nodeOf(impl.NdSet, m.seen(f), m.expr(f, deep-1))
		}
	case 3:
		return nodeOf(impl.NdPut, m.any(), m.expr(f, deep-1), m.expr(f, deep-2))
	case 4:
		return node(impl.NdPrint, m.expr(f, deep-1))
	}
	return node(impl.NdDo, m.expr(f, deep-1))
}

func (m *namer) block(f *named, deep int) impl.Node {
	n := node(impl.NdBlock)
	for range m.rnd.below(4) {
		n.Kids = append(n.Kids, m.statement(f, deep-1))
	}
	return n
}

func (m *namer) program(statements, deep int) impl.Node {
	f := m.open(named{})
	n := node(impl.NdBlock)
	for range statements {
		n.Kids = append(n.Kids, m.statement(&f, deep))
	}
	return n
}

func TestP14AnyProgram(t *testing.T) {
	rnd := &dice{143}
	met := [5]int{}
	funs := 0
	for i := range 12000 {
		m := &namer{rnd: rnd, pool: []int{3, 8, 20}[i%3], wild: []int{4, 15, 60, 1000}[i%4], lets: 2 + rnd.below(5)}
		n := m.program(1+rnd.below(6), 3+rnd.below(6))
		if i%3 == 2 && rnd.below(3) == 0 {
			m.lets = 9
			n = m.program(11+rnd.below(6), 2+rnd.below(4))
		}
		if wantSize(n) > 400 {
			continue
		}
		code := checkNames(t, n)
		met[code]++
		if code == 0 && len(funParts(n)) > 3 {
			funs++
		}
	}
	for code, least := range []int{2000, 100, 1000, 100, 300} {
		if met[code] < least {
			t.Errorf("too few of %d: %d", code, met[code])
		}
	}
	if funs < 500 {
		t.Error("too few with functions:", funs)
	}
}

// One name of a program that is done is another one: what is told is as reckoned, wherever it stands.
func TestP14OneNameTurned(t *testing.T) {
	rnd := &dice{144}
	met := [5]int{}
	for range 4000 {
		m := &namer{rnd: rnd, pool: 6, wild: 1000, lets: 5}
		n := m.program(1+rnd.below(5), 3+rnd.below(5))
		if wantSize(n) > 200 {
			continue
		}
		var all []*impl.Node
		for _, one := range nodesOf(&n) {
			if one.S != "" && one.Op != impl.NdFun {
				all = append(all, one)
			}
		}
		if len(all) == 0 {
			continue
		}
		all[rnd.below(len(all))].S = m.any()
		met[checkNames(t, n)]++
	}
	if met[0] < 300 || met[2] < 300 || met[4] < 100 {
		t.Error("too few of a kind:", met)
	}
}

func TestP14SourcesAsBefore(t *testing.T) {
	for _, src := range wholePrograms() {
		checkNames(t, mustParse(t, src))
	}
	rnd := &dice{145}
	for range 1500 {
		checkNames(t, aTree(rnd, rnd.below(6), 1+rnd.below(9)))
	}
}

func TestP21NamesOfAnyTree(t *testing.T) {
	rnd := &dice{146}
	for range 3000 {
		checkNames(t, anyTree(rnd, 1+rnd.below(6)))
		checkNames(t, anyNamedTree(rnd, 1+rnd.below(5)))
		n := anyNamedTree(rnd, 1+rnd.below(4))
		n.Op, n.S, n.N = impl.NdBlock, "", 0
		checkNames(t, n)
	}
	right := 0
	for range 4000 {
		n := roomy(aTree(rnd, 1+rnd.below(3), 1+rnd.below(5)))
		all := nodesOf(&n)
		turnOne(rnd, all[rnd.below(len(all))])
		if checkNames(t, n) != 1 {
			right++
		}
	}
	if right < 200 {
		t.Error("too few:", right)
	}
	for _, op := range anyOps() {
		for _, s := range append(oddTexts(), "x", "a b", "a  b", " ", strings.Repeat("x", 1<<16)) {
			checkNames(t, impl.Node{Op: op, S: s, N: op})
			checkNames(t, impl.Node{Op: op, S: s, Kids: []impl.Node{}})
			checkNames(t, node(impl.NdBlock, nodeOf(op, s, nodeOf(op, s), nodeOf(impl.NdLet, s))))
		}
	}
}

func TestP21NamesOfGreatTrees(t *testing.T) {
	const many = 1000000
	checkVars(t, "a deep one", chainOf(many))
	checkNothing(t, "a deep one", chainOf(many))
	deep := nodeOf(impl.NdLet, "last", numNode(1))
	var want []string
	for i := range many {
		switch {
		case i%(many/4) == 0:
			deep = nodeOf(impl.NdLet, "n"+strconv.Itoa(i), deep)
			want = append([]string{"n" + strconv.Itoa(i)}, want...)
		case i%2 == 0:
			deep = node(impl.NdBlock, deep, numNode(1))
		default:
			deep = node(impl.NdAdd, numNode(1), deep)
		}
	}
	checkVars(t, "deep lets", node(impl.NdBlock, deep), append(want, "last")...)
	checkVars(t, "deep lets of a function", nodeOf(impl.NdFun, "last p", node(impl.NdBlock, deep)), append([]string{"last", "p"}, want...)...)
	checkNothing(t, "deep lets", node(impl.NdBlock, deep))
	funs := node(impl.NdBlock, nodeOf(impl.NdLet, "x"))
	for range many / 10 {
		funs = node(impl.NdBlock, nodeOf(impl.NdFun, "a", funs), nodeOf(impl.NdLet, "y"))
	}
	checkVars(t, "deep functions", funs, "y")
	checkNothing(t, "deep functions", funs)
	wide := node(impl.NdBlock)
	want = nil
	for i := range many / 4 {
		name := "n" + strconv.Itoa(i)
		want = append(want, name)
		wide.Kids = append(wide.Kids, nodeOf(impl.NdLet, name), nodeOf(impl.NdLet, "n"+strconv.Itoa(i/2)))
	}
	checkVars(t, "many lets", wide, want...)
	checkNothing(t, "many lets", wide)
	checkVars(t, "many of nothing", node(impl.NdBlock, make([]impl.Node, many)...))
	names := strings.Join(want, " ")
	checkVars(t, "many names", nodeOf(impl.NdFun, names), want...)
	checkVars(t, "many names and lets", nodeOf(impl.NdFun, names, wide), want...)
	checkVars(t, "one name often", nodeOf(impl.NdFun, strings.Repeat("a ", many)+"a"), "a")
	checkVars(t, "blanks", nodeOf(impl.NdFun, strings.Repeat(" ", many)), "")
	program := node(impl.NdBlock, node(impl.NdDo, nodeOf(impl.NdFun, names, node(impl.NdBlock))))
	checkCode(t, "many names", program, 3)
	program.Kids[0].Kids[0].S += " n0"
	checkCode(t, "many names and one twice", program, 2)
	if got := impl.Funs(program); len(got) != 2 || got[1].S != names+" n0" {
		t.Error("many names:", len(got))
	}
}

func TestP21FindInGreatScopes(t *testing.T) {
	const many = 1000000
	scope := make([]string, many)
	for i := range scope {
		scope[i] = "n" + strconv.Itoa(i)
	}
	checkAt := func(scopes [][]string, name string, depth, place int, found bool) {
		t.Helper()
		if gotDepth, gotPlace, got := impl.Find(scopes, name); gotDepth != depth || gotPlace != place || got != found {
			t.Errorf("%q: %d %d %t, want %d %d %t", name, gotDepth, gotPlace, got, depth, place, found)
		}
	}
	checkAt([][]string{scope}, "n999999", 0, many-1, true)
	checkAt([][]string{scope, {"x"}, nil}, "n999999", 2, many-1, true)
	checkAt([][]string{scope}, "n", 0, 0, false)
	rows := make([][]string, many)
	checkAt(rows, "a", 0, 0, false)
	rows[0] = []string{"b", "a"}
	checkAt(rows, "a", many-1, 1, true)
	rows[many-1] = []string{strings.Repeat("a", many)}
	checkAt(rows, strings.Repeat("a", many), 0, 0, true)
}

// One list may stand at many places, and within itself: Vars tells each name once and comes back; of what is right each function counts as often as it is met.
func TestP21NamesOfSharedLists(t *testing.T) {
	n := node(impl.NdBlock, nodeOf(impl.NdLet, "a"), nodeOf(impl.NdFun, "p", nodeOf(impl.NdLet, "no")), nodeOf(impl.NdLet, "b"))
	for i := range 300 {
		n = node(impl.NdAdd, n, nodeOf(impl.NdLet, "c"), n, nodeOf(impl.NdLet, "d"+strconv.Itoa(i/150)), n)
		if i < 5 {
			checkVars(t, "few times", n, wantVars(n)...)
		}
	}
	checkVars(t, "many times", n, "a", "b", "c", "d0", "d1")
	checkNothing(t, "many times", n)
	row := []impl.Node{{}, nodeOf(impl.NdLet, "y"), nodeOf(impl.NdLet, "z"), nodeOf(impl.NdLet, "w")}
	row[0] = node(impl.NdBlock, impl.Node{Op: impl.NdBlock, Kids: row[2:3]}, impl.Node{Op: impl.NdBlock, Kids: row[2:]}, impl.Node{Op: impl.NdBlock, Kids: row[2:2]})
	checkVars(t, "a row that leads on in itself", impl.Node{Op: impl.NdBlock, Kids: row}, "z", "w", "y")
	checkVars(t, "a piece of it", impl.Node{Op: impl.NdBlock, Kids: row[:1]}, "z", "w")
	checkVars(t, "its end first", node(impl.NdBlock, impl.Node{Kids: row[3:]}, impl.Node{Kids: row[1:3]}, impl.Node{Kids: row[1:]}, impl.Node{Kids: row}), "w", "y", "z")
	wide := make([]impl.Node, 3000)
	for i := range wide {
		wide[i] = nodeOf(impl.NdLet, "n"+strconv.Itoa(i%7))
	}
	for range 3 {
		about := make([]impl.Node, 3000)
		for i := range about {
			about[i] = impl.Node{Op: impl.NdBlock, Kids: wide}
		}
		wide = about
	}
	checkVars(t, "a wide row often", impl.Node{Op: impl.NdBlock, Kids: wide}, "n0", "n1", "n2", "n3", "n4", "n5", "n6")
	for length := 1; length <= 5; length++ {
		ring := make([][]impl.Node, length)
		for i := range ring {
			ring[i] = make([]impl.Node, 3)
		}
		var want []string
		for i := range ring {
			want = append(want, "a"+strconv.Itoa(i), "b"+strconv.Itoa(i))
			ring[i][0] = nodeOf(impl.NdLet, "a"+strconv.Itoa(i), numNode(1))
			ring[i][1] = node(impl.NdWhile, numNode(1), impl.Node{Op: impl.NdBlock, Kids: ring[(i+1)%length]})
			ring[i][2] = nodeOf(impl.NdLet, "b"+strconv.Itoa(i), numNode(1))
		}
		round := impl.Node{Op: impl.NdBlock, Kids: ring[0]}
		slices.Sort(want)
		if got := slices.Sorted(slices.Values(impl.Vars(round))); !slices.Equal(got, want) {
			t.Errorf("a ring of %d: %q, want %q", length, got, want)
		}
		checkNothing(t, "a ring", round)
		checkVars(t, "a ring within a function", node(impl.NdBlock, node(impl.NdFun, round), nodeOf(impl.NdLet, "x")), "x")
		ring[length-1][1] = node(impl.NdDo, numNode(1))
		checkNames(t, round)
	}
	// two lists that lead to each other, by a piece and as a whole in turn
	one, two := make([]impl.Node, 4), make([]impl.Node, 4)
	for i, length := range []int{0, 1, 2, 4} {
		one[i] = impl.Node{Op: impl.NdLet, S: "one" + strconv.Itoa(i), Kids: two[:length]}
		two[i] = impl.Node{Op: impl.NdLet, S: "two" + strconv.Itoa(i), Kids: one[:length]}
	}
	for _, length := range []int{1, 2, 3, 4} {
		both := impl.Node{Op: impl.NdBlock, Kids: one[:length]}
		if got := impl.Vars(both); len(got) != []int{1, 3, 5, 8}[length-1] || got[0] != "one0" {
			t.Errorf("pieces of %d: %q", length, got)
		}
		checkCode(t, "pieces", both, 1)
	}
	body := []impl.Node{nodeOf(impl.NdLet, "x", nodeOf(impl.NdFun, "a", node(impl.NdBlock)))}
	twice := node(impl.NdBlock, node(impl.NdIf, numNode(1), impl.Node{Op: impl.NdBlock, Kids: body}, impl.Node{Op: impl.NdBlock, Kids: body}))
	checkCode(t, "the same let at two places", twice, 2)
	if got := namesOfFuns(twice); !slices.Equal(got, []string{"", "a", "a"}) {
		t.Errorf("the same function at two places: %q", got)
	}
	apart := node(impl.NdBlock, node(impl.NdDo, node(impl.NdFun, impl.Node{Op: impl.NdBlock, Kids: body})), body[0])
	checkCode(t, "the same let in two functions", apart, 0)
	checkNames(t, twice)
	checkNames(t, apart)
}

// checkUnshared: no two lists of trees share any memory, the room behind them too.
func checkUnshared(t *testing.T, what string, lists [][]impl.Node) {
	t.Helper()
	for i, list := range lists {
		had := slices.Clone(list)
		for j := range list {
			list[j] = spoiltNode()
		}
		for k, other := range lists {
			if k != i && slices.ContainsFunc(other, func(n impl.Node) bool { return n.Op == spoiltNode().Op }) {
				t.Fatalf("%s: lists %d and %d share", what, i, k)
			}
		}
		copy(list, had)
	}
}

func namedPrograms(t *testing.T) []impl.Node {
	var out []impl.Node
	for _, src := range append(wholePrograms(), "", "function(a){ function(b){ function(c){}; }; function(d){}; }; function(e){};", "f(function(a){ {x: function(b){}}; }, function(){}); let f = 1;",
		"let a = 1; let f = function(b) { let c = a; return function(a) { b = a + c; }; }; a = f(a);") {
		out = append(out, mustParse(t, src))
	}
	rnd := &dice{147}
	for range 60 {
		m := &namer{rnd: rnd, pool: 6, wild: 30, lets: 4}
		if n := m.program(1+rnd.below(5), 3+rnd.below(5)); wantNodeOk(n) {
			out = append(out, n)
		}
	}
	return out
}

func TestP21FunctionsToldAreNew(t *testing.T) {
	for _, n := range namedPrograms(t) {
		what, want := treeText(n), wantFuns(n)
		all := impl.Funs(n)
		lists := append(allLists(n), all[:cap(all)])
		for _, f := range all {
			lists = append(lists, allLists(f)...)
		}
		checkUnshared(t, what, lists)
		for _, list := range lists[len(allLists(n)):] {
			for i := range list {
				list[i] = spoiltNode()
			}
		}
		if treeText(n) != what {
			t.Fatalf("%s, then %s", what, treeText(n))
		}
		if again := treeTexts(impl.Funs(n)); !slices.Equal(again, want) {
			t.Errorf("%s again: %q, want %q", what, again, want)
		}
		kept := impl.Funs(n)
		for _, list := range allLists(n) {
			for i := range list {
				list[i] = spoiltNode()
			}
		}
		if got := treeTexts(kept[1:]); !slices.Equal(got, want[1:]) {
			t.Errorf("%s: what was told is turned: %q", what, got)
		}
	}
}

func TestP21VarsToldAreNew(t *testing.T) {
	for _, n := range namedPrograms(t) {
		for _, f := range impl.Funs(n) {
			what, want := wholeText(f), wantVars(f)
			got := impl.Vars(f)
			for i := range got[:cap(got)] {
				got[:cap(got)][i] = "spoilt"
			}
			if wholeText(f) != what {
				t.Fatalf("%s, then %s", what, wholeText(f))
			}
			checkVars(t, what, f, want...)
		}
	}
}

func TestP21NamedTreesAreNotWrittenInto(t *testing.T) {
	rnd := &dice{148}
	trees := namedPrograms(t)
	for range 200 {
		trees = append(trees, anyNamedTree(rnd, 5), anyTree(rnd, 4))
	}
	for _, n := range trees {
		n = roomy(n)
		before := wholeText(n)
		checkNames(t, n)
		checkNames(t, n)
		if wholeText(n) != before {
			t.Fatalf("%s, then %s", before, wholeText(n))
		}
	}
	room := []string{"a", "b", "c", "d", "e", "f"}
	scopes := [][]string{room[:2], room[2:3], nil, room[4:4], {"x"}, {"y"}}
	for _, name := range []string{"a", "c", "d", "x", "y", "zz", ""} {
		depth, place, found := wantFind(scopes[:5], name)
		checkFind(t, scopes[:5], name, depth, place, found)
	}
	if !slices.Equal(room, []string{"a", "b", "c", "d", "e", "f"}) || len(scopes[0]) != 2 || len(scopes[1]) != 1 || len(scopes[2])+len(scopes[3]) != 0 || scopes[4][0] != "x" || scopes[5][0] != "y" {
		t.Error("scopes are turned:", room, scopes)
	}
}

func TestP21NamesAskedByManyAtOnce(t *testing.T) {
	programs := namedPrograms(t)
	shared := [][]string{{"a", "b"}, {"c"}}
	var all sync.WaitGroup
	for range 16 {
		all.Go(func() {
			for _, n := range programs {
				checkNames(t, n)
			}
			checkFind(t, shared, "b", 1, 1, true)
		})
	}
	all.Wait()
}
