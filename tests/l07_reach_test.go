package tests

import (
	"fmt"
	"math"
	"slices"
	"strings"
	"testing"

	"loop.example/g00242/impl"
)

func (g sight) valuesAt(at int) []int {
	var out []int
	for _, slot := range g.slots(at) {
		out = append(out, g.words[slot])
	}
	return out
}

// firstUnmet: the block to which the first value leads that leads to one not met yet, of the roots and then of those that were met; -1 when there is none.
func (g sight) firstUnmet(roots, met []int) int {
	values := slices.Clone(roots)
	for _, at := range met {
		values = append(values, g.valuesAt(at)...)
	}
	for _, v := range values {
		if leftOver(v, 8) >= 4 && !slices.Contains(met, wantNum(v)) {
			return wantNum(v)
		}
	}
	return -1
}

func (g sight) met(roots []int) []int {
	var met []int
	for at := g.firstUnmet(roots, met); at >= 0; at = g.firstUnmet(roots, met) {
		met = append(met, at)
	}
	return met
}

func (g sight) rootsOk(roots []int) bool {
	return g.heap() && !slices.ContainsFunc(roots, func(v int) bool { return !g.root(v) })
}

// wantReach goes over all blocks again and again, in no order that Picture has, until no more of them are reached.
func wantReach(s impl.Slab, roots []int) []int {
	g := sightOf(s)
	if !g.rootsOk(roots) {
		return nil
	}
	reached := map[int]bool{}
	shade := func(values []int) {
		for _, v := range values {
			if leftOver(v, 8) >= 4 {
				reached[wantNum(v)] = true
			}
		}
	}
	shade(roots)
	for before := -1; before != len(reached); {
		before = len(reached)
		for _, at := range g.places {
			if reached[at] {
				shade(g.valuesAt(at))
			}
		}
	}
	var out []int
	for _, at := range g.places {
		if reached[at] {
			out = append(out, at)
		}
	}
	return out
}

func wantValue(v int, met []int) string {
	switch n := wantNum(v); leftOver(v, 8) {
	case 0:
		return " undef"
	case 1:
		return " null"
	case 2:
		return fmt.Sprintf(" %v", n == 1)
	case 3:
		return fmt.Sprintf(" %d", n)
	default:
		return fmt.Sprintf(" @%d", slices.Index(met, n))
	}
}

func (g sight) lineAt(at int, met []int) string {
	kind := g.kinds[slices.Index(g.places, at)]
	line := []string{"free", "text", "obj", "cell", "fun", "scope"}[kind]
	switch kind {
	case impl.BkText:
		for _, b := range []byte(bytesOf(g.words, at)) {
			line += fmt.Sprintf(" %d", b)
		}
	case impl.BkFun:
		line += fmt.Sprintf(" %d", g.words[at+1])
	}
	values := g.valuesAt(at)
	for i, v := range values {
		followed := slices.ContainsFunc(values[i:], func(w int) bool { return w != impl.VUndef })
		if kind != impl.BkScope || followed {
			line += wantValue(v, met)
		}
	}
	return line + "\n"
}

func wantPicture(s impl.Slab, roots []int) string {
	g := sightOf(s)
	if !g.rootsOk(roots) {
		return ""
	}
	met := g.met(roots)
	out := "roots"
	for _, v := range roots {
		out += wantValue(v, met)
	}
	out += "\n"
	for _, at := range met {
		out += g.lineAt(at, met)
	}
	return out
}

// checkSight holds what each function tells of a slab and roots against what the chapter's words say.
func checkSight(t *testing.T, what string, s impl.Slab, roots []int) {
	t.Helper()
	if got, want := impl.Reach(s, roots), wantReach(s, roots); !slices.Equal(got, want) {
		t.Errorf("%s: Reach from %v is %v, not %v, of %v", what, roots, got, want, s)
	}
	want := wantPicture(s, roots)
	if got := impl.Picture(s, roots); got != want {
		t.Errorf("%s: Picture from %v is %q, not %q, of %v", what, roots, got, want, s)
	}
	if got := impl.SameSight(s, roots, s, roots); got != (want != "") {
		t.Errorf("%s: SameSight from %v with itself is %v, of %v", what, roots, got, s)
	}
}

// planned: a block that has no place yet. What is plain in it are a text's bytes, or a function's number; a value that leads to a block has that one's number for its place.
type planned struct {
	kind   int
	plain  []int
	values []int
}

// plan: a heap of which it is not said yet what lies where.
type plan struct {
	blocks []planned
	roots  []int
}

func (p plan) clone() plan {
	q := plan{slices.Clone(p.blocks), slices.Clone(p.roots)}
	for i, b := range q.blocks {
		q.blocks[i] = planned{b.kind, slices.Clone(b.plain), slices.Clone(b.values)}
	}
	return q
}

func placed(values, places []int) []int {
	var out []int
	for _, v := range values {
		if leftOver(v, 8) >= 4 {
			v = ref(leftOver(v, 8), places[wantNum(v)])
		}
		out = append(out, v)
	}
	return out
}

func (b planned) body(places []int, spare int) body {
	words := slices.Clone(b.plain)
	if b.kind == impl.BkText {
		words = append([]int{len(b.plain)}, words...)
	}
	words = append(words, placed(b.values, places)...)
	return holding(b.kind, append(words, make([]int, spare)...)...)
}

// spareOf: how many words more than it needs a block of that kind gets.
func spareOf(rnd *dice, kind int) int {
	switch {
	case rnd == nil:
		return 0
	case kind == impl.BkText || kind == impl.BkScope:
		return rnd.below(4)
	}
	return rnd.below(2)
}

// laid lays the blocks in that order: side by side without dice; with dice, blocks with more words than they need and free ones full of anything between them.
func (p plan) laid(order []int, rnd *dice) (impl.Slab, []int) {
	places, spares := make([]int, len(p.blocks)), make([]int, len(p.blocks))
	gaps := make([]int, len(order)+1)
	at := 0
	for n, i := range order {
		if rnd != nil && rnd.below(3) == 0 {
			gaps[n] = 2 + rnd.below(4)
		}
		at += gaps[n]
		places[i], spares[i] = at, spareOf(rnd, p.blocks[i].kind)
		at += len(p.blocks[i].body(make([]int, len(order)), spares[i]).words) + 1
	}
	var bodies []body
	for n, i := range order {
		if gaps[n] > 0 {
			bodies = append(bodies, holding(impl.BkFree, slices.Repeat([]int{math.MinInt + 5}, gaps[n]-1)...))
		}
		bodies = append(bodies, p.blocks[i].body(places, spares[i]))
	}
	return heapOf(bodies...), placed(p.roots, places)
}

func (p plan) straight() (impl.Slab, []int) {
	order := make([]int, len(p.blocks))
	for i := range order {
		order[i] = i
	}
	return p.laid(order, nil)
}

func shuffled(rnd *dice, n int) []int {
	order := make([]int, n)
	for i := range order {
		j := rnd.below(i + 1)
		order[i] = order[j]
		order[j] = i
	}
	return order
}

// withUnreached: the same, and blocks of each kind that lead to all sorts of blocks, and to which none leads but one of themselves.
func (p plan) withUnreached() plan {
	q, n := p.clone(), len(p.blocks)
	q.blocks = append(q.blocks,
		planned{impl.BkText, []int{'l', 'o', 's', 't'}, nil},
		planned{impl.BkScope, nil, []int{impl.VUndef, ref(impl.VText, n), ref(impl.VFun, n+4), ref(impl.VObj, n+2)}},
		planned{impl.BkObj, nil, []int{ref(impl.VObj, n+2), ref(impl.VInner, n+3)}},
		planned{impl.BkCell, nil, []int{ref(impl.VText, n), ref(impl.VObj, n+2), ref(impl.VInner, n+3)}},
		planned{impl.BkFun, []int{50}, []int{ref(impl.VInner, n+1)}},
	)
	for i, b := range p.blocks {
		if kind := []int{0, impl.VText, impl.VObj, 0, impl.VFun, 0}[b.kind]; kind > 0 {
			q.blocks[n+1].values = append(q.blocks[n+1].values, ref(kind, i))
		}
	}
	return q
}

// town has texts, objects with cells and prototypes, functions, and scopes one within the other; from its roots each block is reached.
func town() plan {
	const key, none, odd, base, child, one, two, three, early, late, yard, hall, room = 0, 1, 2, 3, 4, 5, 6, 7, 8, 9, 10, 11, 12
	return plan{
		blocks: []planned{
			key:   {impl.BkText, []int{'k', 'e', 'y'}, nil},
			none:  {impl.BkText, nil, nil},
			odd:   {impl.BkText, []int{0, 9, 10, 99, 100, 255}, nil},
			base:  {impl.BkObj, nil, []int{impl.VNull, ref(impl.VInner, one)}},
			child: {impl.BkObj, nil, []int{ref(impl.VObj, base), ref(impl.VInner, three)}},
			one:   {impl.BkCell, nil, []int{ref(impl.VText, key), impl.IntOf(7), ref(impl.VInner, two)}},
			two:   {impl.BkCell, nil, []int{ref(impl.VText, none), ref(impl.VFun, early), impl.VUndef}},
			three: {impl.BkCell, nil, []int{ref(impl.VText, key), ref(impl.VObj, child), impl.VUndef}},
			early: {impl.BkFun, []int{0}, []int{ref(impl.VInner, yard)}},
			late:  {impl.BkFun, []int{99}, []int{ref(impl.VInner, hall)}},
			yard:  {impl.BkScope, nil, []int{impl.VUndef, ref(impl.VObj, child), impl.VUndef, ref(impl.VText, odd), impl.VUndef, impl.VUndef}},
			hall: {impl.BkScope, nil, []int{ref(impl.VInner, yard), impl.VUndef, impl.VNull, impl.BoolOf(true), impl.BoolOf(false), impl.IntOf(0),
				impl.IntOf(-1), impl.IntOf(2147483647), impl.IntOf(theLeast), ref(impl.VFun, late), ref(impl.VFun, early)}},
			room: {impl.BkScope, nil, []int{ref(impl.VInner, hall)}},
		},
		roots: []int{ref(impl.VInner, room), impl.BoolOf(true), ref(impl.VObj, child), ref(impl.VText, odd), impl.VUndef, ref(impl.VInner, room)},
	}
}

const townPicture = "roots @0 true @1 @2 undef @0\n" +
	"scope @3\n" +
	"obj @4 @5\n" +
	"text 0 9 10 99 100 255\n" +
	"scope @6 undef null true false 0 -1 2147483647 -2147483648 @7 @8\n" +
	"obj null @9\n" +
	"cell @10 @1 undef\n" +
	"scope undef @1 undef @2\n" +
	"fun 99 @3\n" +
	"fun 0 @6\n" +
	"cell @10 7 @11\n" +
	"text 107 101 121\n" +
	"cell @12 @8 undef\n" +
	"text\n"

func TestP7Town(t *testing.T) {
	s, roots := town().straight()
	if !impl.RootsOk(s, roots) {
		t.Fatalf("no heap: %v, %v", s, roots)
	}
	if got := impl.Picture(s, roots); got != townPicture {
		t.Errorf("the town is %q", got)
	}
	if got := impl.Reach(s, roots); !slices.Equal(got, impl.Blocks(s)) {
		t.Errorf("all of the town is reached, not %v alone", got)
	}
	checkSight(t, "town", s, roots)
}

// The promise itself: laid in any order, with free blocks and ones that can't be reached between them, with more words than they need.
func TestP7WhateverLiesWhere(t *testing.T) {
	first, firstRoots := town().straight()
	rnd := &dice{7}
	for round := range 300 {
		p := town()
		if round%2 == 1 {
			p = p.withUnreached()
		}
		var dice *dice
		if round%3 > 0 {
			dice = rnd
		}
		s, roots := p.laid(shuffled(rnd, len(p.blocks)), dice)
		if !impl.RootsOk(s, roots) {
			t.Fatalf("no heap: %v, %v", s, roots)
		}
		if got := impl.Picture(s, roots); got != townPicture {
			t.Fatalf("round %d: the town is %q, of %v", round, got, s)
		}
		if !impl.SameSight(s, roots, first, firstRoots) || !impl.SameSight(first, firstRoots, s, roots) {
			t.Fatalf("round %d: not the same sight: %v", round, s)
		}
		if got := impl.Reach(s, roots); len(got) != 13 || !slices.IsSorted(got) {
			t.Fatalf("round %d: %v is reached", round, got)
		}
		checkSight(t, "town", s, roots)
	}
}

// Roots that lead into a part of the town alone: the rest is not seen, whatever it is.
func TestP7Parts(t *testing.T) {
	rnd := &dice{77}
	for i, b := range town().blocks {
		kind := []int{0, impl.VText, impl.VObj, 0, impl.VFun, impl.VInner}[b.kind]
		if kind == 0 {
			continue
		}
		p := town()
		p.roots = []int{ref(kind, i)}
		s, roots := p.straight()
		checkSight(t, "part", s, roots)
		for range 10 {
			q := p.withUnreached()
			moved, to := q.laid(shuffled(rnd, len(q.blocks)), rnd)
			if !impl.SameSight(s, roots, moved, to) {
				t.Errorf("block %d: not the same sight: %v, %v", i, s, moved)
			}
			checkSight(t, "part", moved, to)
		}
	}
}

// wantOther: two plans that are laid do not look the same.
func wantOther(t *testing.T, what string, one, two plan) {
	t.Helper()
	a, aRoots := one.straight()
	b, bRoots := two.straight()
	if !impl.RootsOk(a, aRoots) || !impl.RootsOk(b, bRoots) {
		t.Fatalf("%s: no heap: %v, %v, %v, %v", what, a, aRoots, b, bRoots)
	}
	if impl.Picture(a, aRoots) == impl.Picture(b, bRoots) {
		t.Errorf("%s: the pictures are alike", what)
	}
	if impl.SameSight(a, aRoots, b, bRoots) || impl.SameSight(b, bRoots, a, aRoots) {
		t.Errorf("%s: the same sight", what)
	}
	checkSight(t, what, b, bRoots)
}

// Each value of the town in turn is each other one that may stand there.
func TestP7OneOtherValue(t *testing.T) {
	others := []int{impl.VUndef, impl.VNull, impl.BoolOf(true), impl.BoolOf(false), impl.IntOf(0), impl.IntOf(1), impl.IntOf(-1), impl.IntOf(7), impl.IntOf(theLeast)}
	for i := range town().blocks {
		for kind := impl.VText; kind <= impl.VInner; kind++ {
			others = append(others, ref(kind, i))
		}
	}
	count := 0
	for i, b := range town().blocks {
		for n, v := range b.values {
			for _, w := range others {
				p := town()
				p.blocks[i].values[n] = w
				if s, roots := p.straight(); w != v && impl.RootsOk(s, roots) {
					wantOther(t, fmt.Sprintf("value %d of block %d is %d", n, i, w), town(), p)
					count++
				}
			}
		}
	}
	if count < 300 {
		t.Errorf("%d other values: too few to tell", count)
	}
}

func TestP7OneOtherByte(t *testing.T) {
	for i, b := range town().blocks {
		if b.kind != impl.BkText {
			continue
		}
		for n := range b.plain {
			for _, by := range []int{1, 90, 255} {
				p := town()
				p.blocks[i].plain[n] = (p.blocks[i].plain[n] + by) % 256
				wantOther(t, fmt.Sprintf("byte %d of text %d", n, i), town(), p)
			}
		}
		p := town()
		p.blocks[i].plain = append(p.blocks[i].plain, 0)
		wantOther(t, fmt.Sprintf("one more byte of text %d", i), town(), p)
		if len(b.plain) > 0 {
			p.blocks[i].plain = b.plain[:len(b.plain)-1]
			wantOther(t, fmt.Sprintf("one byte fewer of text %d", i), town(), p)
		}
	}
}

func TestP7OneOtherNumber(t *testing.T) {
	for i, b := range town().blocks {
		for code := range 100 {
			if p := town(); b.kind == impl.BkFun && code != b.plain[0] {
				p.blocks[i].plain[0] = code
				wantOther(t, fmt.Sprintf("function %d has the number %d", i, code), town(), p)
			}
		}
	}
}

func TestP7OtherRoots(t *testing.T) {
	for _, v := range []int{impl.VUndef, impl.VNull, impl.IntOf(3), ref(impl.VText, 0), ref(impl.VInner, 12), ref(impl.VObj, 4)} {
		for at := range len(town().roots) + 1 {
			p := town()
			p.roots = slices.Insert(p.roots, at, v)
			wantOther(t, fmt.Sprintf("%d as root %d", v, at), town(), p)
		}
	}
	for at := range town().roots {
		p := town()
		p.roots = slices.Delete(p.roots, at, at+1)
		wantOther(t, fmt.Sprintf("without root %d", at), town(), p)
		p = town()
		if next := (at + 1) % len(p.roots); p.roots[at] != p.roots[next] {
			p.roots[at], p.roots[next] = p.roots[next], p.roots[at]
			wantOther(t, fmt.Sprintf("roots %d and %d", at, next), town(), p)
		}
	}
	p := town()
	p.roots = nil
	wantOther(t, "no roots", town(), p)
}

// Two texts with the same bytes, and one to which two values lead, are not the same.
func TestP7Twins(t *testing.T) {
	one := plan{[]planned{{impl.BkText, []int{'a'}, nil}}, []int{ref(impl.VText, 0), ref(impl.VText, 0)}}
	two := plan{[]planned{{impl.BkText, []int{'a'}, nil}, {impl.BkText, []int{'a'}, nil}}, []int{ref(impl.VText, 0), ref(impl.VText, 1)}}
	wantOther(t, "twins", one, two)
	s, roots := one.straight()
	if got := impl.Picture(s, roots); got != "roots @0 @0\ntext 97\n" {
		t.Errorf("one is %q", got)
	}
	s, roots = two.straight()
	if got := impl.Picture(s, roots); got != "roots @0 @1\ntext 97\ntext 97\n" {
		t.Errorf("two are %q", got)
	}
	// Which of them is met first is not seen.
	if !impl.SameSight(s, roots, s, []int{roots[1], roots[0]}) {
		t.Error("twins the other way round")
	}
	// An object, a function and a scope at one place are told apart by their kinds.
	kinds := plan{[]planned{{impl.BkObj, nil, []int{impl.VNull, impl.VUndef}}}, []int{ref(impl.VObj, 0)}}
	scope := plan{[]planned{{impl.BkScope, nil, []int{impl.VUndef, impl.VNull}}}, []int{ref(impl.VInner, 0)}}
	wantOther(t, "an object and a scope", kinds, scope)
}

// Lines word for word.
func TestP7Lines(t *testing.T) {
	whole := wholeHeap()
	for what, c := range map[string]struct {
		s     impl.Slab
		roots []int
		want  string
	}{
		"no roots":                 {whole, nil, "roots\n"},
		"roots of no length":       {whole, []int{}, "roots\n"},
		"roots alone":              {whole, []int{impl.VNull, impl.VUndef, impl.BoolOf(false), impl.BoolOf(true), impl.IntOf(5), impl.VUndef}, "roots null undef false true 5 undef\n"},
		"numbers":                  {whole, []int{impl.IntOf(0), impl.IntOf(-1), impl.IntOf(2147483647), impl.IntOf(theLeast), impl.IntOf(10), impl.IntOf(-100)}, "roots 0 -1 2147483647 -2147483648 10 -100\n"},
		"undefined roots are told": {whole, []int{impl.VUndef, impl.VUndef}, "roots undef undef\n"},
		"a text of no bytes":       {whole, []int{ref(impl.VText, atEmpty)}, "roots @0\ntext\n"},
		"a text with more words":   {whole, []int{ref(impl.VText, atBytes)}, "roots @0\ntext 0 255\n"},
		"bytes of all lengths":     {heapOf(holding(impl.BkText, 8, 0, 9, 10, 99, 100, 255, 32, 64)), []int{ref(impl.VText, 0)}, "roots @0\ntext 0 9 10 99 100 255 32 64\n"},
		"runes are told by bytes":  {heapOf(holding(impl.BkText, textBody("é€\xe2\U0001F600")...)), []int{ref(impl.VText, 0)}, "roots @0\ntext 195 169 226 130 172 226 240 159 152 128\n"},
		"an object":                {heapOf(holding(impl.BkObj, impl.VNull, impl.VUndef)), []int{ref(impl.VObj, 0)}, "roots @0\nobj null undef\n"},
		"an object with one more":  {heapOf(holding(impl.BkObj, impl.VNull, impl.VUndef, 0)), []int{ref(impl.VObj, 0)}, "roots @0\nobj null undef\n"},
		"cells":                    {whole, []int{ref(impl.VObj, atObj)}, "roots @0\nobj null @1\ncell @2 @3 @4\ntext 107 101 121\nobj @0 undef\ncell @5 -7 undef\ntext\n"},
		"a function":               {whole, []int{ref(impl.VFun, atFun)}, "roots @0\nfun 0 @1\nscope\n"},
		"a scope of no values":     {whole, []int{ref(impl.VInner, atAlone)}, "roots @0\nscope\n"},
		"the far function": {whole, []int{ref(impl.VFun, atFar)}, "roots @0\nfun 99 @1\nscope @2 undef null true -2147483648 @3 @4 @5 @0\nscope\n" +
			"text 0 255\nobj null @6\nfun 0 @2\ncell @7 @8 @9\ntext 107 101 121\nobj @4 undef\ncell @10 -7 undef\ntext\n"},
		"no words":               {impl.Slab{}, nil, "roots\n"},
		"no words, roots alone":  {impl.Slab{}, []int{impl.IntOf(-3), impl.VUndef}, "roots -3 undef\n"},
		"nothing but free words": {heapOf(holding(impl.BkFree, 5, 5)), []int{impl.VNull}, "roots null\n"},
	} {
		if got := impl.Picture(c.s, c.roots); got != c.want {
			t.Errorf("%s: %q, not %q", what, got, c.want)
		}
		checkSight(t, what, c.s, c.roots)
	}
}

// Two trees that would be gone through in another order if the first branch were followed to its end first, or the blocks by their places.
func TestP7Order(t *testing.T) {
	p := plan{blocks: []planned{
		{impl.BkScope, nil, []int{ref(impl.VInner, 1), ref(impl.VObj, 2), ref(impl.VFun, 3)}},
		{impl.BkScope, nil, []int{ref(impl.VInner, 4), ref(impl.VText, 5)}},
		{impl.BkObj, nil, []int{ref(impl.VObj, 6), ref(impl.VInner, 7)}},
		{impl.BkFun, []int{3}, []int{ref(impl.VInner, 8)}},
		{impl.BkScope, nil, []int{impl.VUndef, impl.IntOf(4)}},
		{impl.BkText, []int{5}, nil},
		{impl.BkObj, nil, []int{impl.VNull, impl.VUndef}},
		{impl.BkCell, nil, []int{ref(impl.VText, 9), impl.IntOf(7), impl.VUndef}},
		{impl.BkScope, nil, []int{impl.VUndef, impl.IntOf(8)}},
		{impl.BkText, []int{9}, nil},
	}}
	for what, c := range map[string]struct {
		roots []int
		want  string
	}{
		"from one": {[]int{ref(impl.VInner, 0)}, "roots @0\nscope @1 @2 @3\nscope @4 @5\nobj @6 @7\nfun 3 @8\nscope undef 4\ntext 5\nobj null undef\ncell @9 7 undef\nscope undef 8\ntext 9\n"},
		"roots first": {[]int{impl.VNull, ref(impl.VInner, 0), ref(impl.VText, 9), ref(impl.VInner, 4)},
			"roots null @0 @1 @2\nscope @3 @4 @5\ntext 9\nscope undef 4\nscope @2 @6\nobj @7 @8\nfun 3 @9\ntext 5\nobj null undef\ncell @1 7 undef\nscope undef 8\n"},
		"roots twice": {[]int{ref(impl.VFun, 3), ref(impl.VObj, 2), ref(impl.VFun, 3), ref(impl.VObj, 2)},
			"roots @0 @1 @0 @1\nfun 3 @2\nobj @3 @4\nscope undef 8\nobj null undef\ncell @5 7 undef\ntext 9\n"},
		"last root first": {[]int{ref(impl.VText, 5), ref(impl.VInner, 1)}, "roots @0 @1\ntext 5\nscope @2 @0\nscope undef 4\n"},
	} {
		p.roots = c.roots
		rnd := &dice{70}
		for round := range 40 {
			s, roots := p.laid(shuffled(rnd, len(p.blocks)), rnd)
			if got := impl.Picture(s, roots); got != c.want {
				t.Errorf("%s, round %d: %q, not %q", what, round, got, c.want)
			}
			checkSight(t, what, s, roots)
		}
	}
}

// A block to which many values lead, of roots, cells, functions and scopes, has one line.
func TestP7Shared(t *testing.T) {
	s := heapOf(
		holding(impl.BkScope, ref(impl.VInner, 7), ref(impl.VText, 13), ref(impl.VObj, 15), ref(impl.VText, 13), ref(impl.VFun, 22), ref(impl.VFun, 22)),
		holding(impl.BkScope, impl.VUndef, ref(impl.VText, 13), ref(impl.VObj, 15), ref(impl.VObj, 15), ref(impl.VFun, 22)),
		holding(impl.BkText, 0),
		holding(impl.BkObj, ref(impl.VObj, 15), ref(impl.VInner, 18)),
		holding(impl.BkCell, ref(impl.VText, 13), ref(impl.VText, 13), ref(impl.VInner, 18)),
		holding(impl.BkFun, 12, ref(impl.VInner, 7)),
	)
	roots := []int{ref(impl.VInner, 0), ref(impl.VText, 13), ref(impl.VText, 13), ref(impl.VInner, 7)}
	want := "roots @0 @1 @1 @2\nscope @2 @1 @3 @1 @4 @4\ntext\nscope undef @1 @3 @3 @4\nobj @3 @5\nfun 12 @2\ncell @1 @1 @5\n"
	if got := impl.Picture(s, roots); got != want {
		t.Errorf("%q, not %q", got, want)
	}
	if got := impl.Reach(s, roots); !slices.Equal(got, []int{0, 7, 13, 15, 18, 22}) {
		t.Errorf("%v is reached", got)
	}
	checkSight(t, "shared", s, roots)
}

// What is left out of a scope: the outer one is a value of it too.
func TestP7LeftOutOfScopes(t *testing.T) {
	out := ref(impl.VInner, 0)
	for _, c := range []struct {
		words []int
		want  string
	}{
		{[]int{impl.VUndef}, "scope\n"},
		{[]int{impl.VUndef, impl.VUndef}, "scope\n"},
		{[]int{impl.VUndef, impl.VUndef, impl.VUndef, impl.VUndef}, "scope\n"},
		{[]int{impl.VUndef, impl.VNull}, "scope undef null\n"},
		{[]int{impl.VUndef, impl.VNull, impl.VUndef}, "scope undef null\n"},
		{[]int{impl.VUndef, impl.VUndef, impl.VNull}, "scope undef undef null\n"},
		{[]int{impl.VUndef, impl.VUndef, impl.VNull, impl.VUndef, impl.VUndef}, "scope undef undef null\n"},
		{[]int{impl.VUndef, impl.IntOf(0), impl.VUndef, impl.VUndef, impl.BoolOf(false), impl.VUndef}, "scope undef 0 undef undef false\n"},
		{[]int{impl.VUndef, impl.VNull, impl.VNull}, "scope undef null null\n"},
		{[]int{out}, "scope @1\nscope undef 1\n"},
		{[]int{out, impl.VUndef}, "scope @1\nscope undef 1\n"},
		{[]int{out, impl.VUndef, impl.VUndef, impl.VUndef}, "scope @1\nscope undef 1\n"},
		{[]int{out, impl.VUndef, impl.IntOf(-4), impl.VUndef}, "scope @1 undef -4\nscope undef 1\n"},
		{[]int{out, impl.VUndef, impl.VUndef, ref(impl.VText, 3), impl.VUndef}, "scope @1 undef undef @2\nscope undef 1\ntext\n"},
		{[]int{ref(impl.VInner, 5), impl.VUndef}, "scope @0\n"},
		{slices.Repeat([]int{impl.VUndef}, 1990), "scope\n"},
		{append(slices.Repeat([]int{impl.VUndef}, 1990), impl.VNull, impl.VUndef), "scope" + strings.Repeat(" undef", 1990) + " null\n"},
	} {
		s := heapOf(holding(impl.BkScope, impl.VUndef, impl.IntOf(1)), holding(impl.BkText, 0), holding(impl.BkScope, c.words...))
		roots := []int{ref(impl.VInner, 5)}
		if got := impl.Picture(s, roots); got != "roots @0\n"+c.want {
			t.Errorf("a scope of %d words is %q, not %q", len(c.words), got, c.want)
		}
		checkSight(t, "scope", s, roots)
		more := heapOf(holding(impl.BkScope, impl.VUndef, impl.IntOf(1)), holding(impl.BkText, 0), holding(impl.BkScope, append(slices.Clone(c.words), impl.VUndef)...))
		if !impl.SameSight(s, roots, more, roots) {
			t.Errorf("a scope of %d words and one more are told apart", len(c.words))
		}
		other := heapOf(holding(impl.BkScope, impl.VUndef, impl.IntOf(1)), holding(impl.BkText, 0), holding(impl.BkScope, append(slices.Clone(c.words), impl.VNull)...))
		if impl.SameSight(s, roots, other, roots) {
			t.Errorf("a scope of %d words and one with null behind them are not told apart", len(c.words))
		}
	}
	// Of objects and cells none is left out.
	s := heapOf(holding(impl.BkText, 0), holding(impl.BkObj, impl.VNull, ref(impl.VInner, 5)), holding(impl.BkCell, ref(impl.VText, 0), impl.VUndef, impl.VUndef, 0))
	if got := impl.Picture(s, []int{ref(impl.VObj, 2)}); got != "roots @0\nobj null @1\ncell @2 undef undef\ntext\n" {
		t.Errorf("an object with an undefined value is %q", got)
	}
}

// Numbers of blocks with one to three digits, and as many as a slab has words for.
func TestP7ManyBlocks(t *testing.T) {
	for _, n := range []int{9, 10, 11, 99, 100, 101, 130, 660} {
		values, want, lines := []int{impl.VUndef}, "roots @0\nscope undef", ""
		bodies := []body{{}}
		for i := range n {
			values = append(values, ref(impl.VText, n+2+2*i))
			bodies = append(bodies, holding(impl.BkText, 0))
			want += fmt.Sprintf(" @%d", i+1)
			lines += "text\n"
		}
		bodies[0] = holding(impl.BkScope, values...)
		s, roots := heapOf(bodies...), []int{ref(impl.VInner, 0)}
		if got := impl.Picture(s, roots); got != want+"\n"+lines {
			t.Errorf("%d texts: %q", n, got)
		}
		if got := impl.Reach(s, roots); !slices.Equal(got, impl.Blocks(s)) {
			t.Errorf("%d texts: %v is reached", n, got)
		}
	}
	// A thousand scopes in a row, the innermost one last; and in a circle.
	bodies, want := []body{holding(impl.BkScope, impl.VUndef)}, "roots @0\n"
	for i := 1; i < 1000; i++ {
		bodies = append(bodies, holding(impl.BkScope, ref(impl.VInner, 2*(i-1))))
		want += fmt.Sprintf("scope @%d\n", i)
	}
	roots := []int{ref(impl.VInner, 1998)}
	if got := impl.Picture(heapOf(bodies...), roots); got != want+"scope\n" {
		t.Errorf("a row of scopes: %q", got)
	}
	bodies[0].words[0] = roots[0]
	if got := impl.Picture(heapOf(bodies...), roots); got != want+"scope @0\n" {
		t.Errorf("a circle of scopes: %q", got)
	}
	if got := impl.Reach(heapOf(bodies...), roots); len(got) != 1000 || got[0] != 0 || got[999] != 1998 {
		t.Errorf("of a circle of scopes %v is reached", got)
	}
	long := heapOf(holding(impl.BkText, textBody(strings.Repeat("\xff", 1998))...))
	if got := impl.Picture(long, []int{ref(impl.VText, 0)}); got != "roots @0\ntext"+strings.Repeat(" 255", 1998)+"\n" {
		t.Errorf("the longest text: %q", got)
	}
}

// Reach is ascending and tells each place once, whatever the order of the roots and however often one stands there.
func TestP7ReachOfRootsInAnyOrder(t *testing.T) {
	s := wholeHeap()
	for _, c := range []struct {
		roots []int
		want  []int
	}{
		{nil, nil},
		{[]int{impl.VUndef, impl.VNull, impl.BoolOf(true), impl.IntOf(atObj), impl.IntOf(0)}, nil},
		{[]int{ref(impl.VText, atKey), impl.IntOf(atObj), ref(impl.VText, atEmpty)}, []int{atKey, atEmpty}},
		{[]int{ref(impl.VFun, atFun), ref(impl.VText, atBytes), impl.VNull}, []int{atBytes, atFun, atAlone}},
		{[]int{ref(impl.VObj, atChild), ref(impl.VObj, atObj), ref(impl.VInner, atAlone)}, []int{atKey, atEmpty, atObj, atChild, atCell, atNext, atAlone}},
		{[]int{ref(impl.VInner, atScope), ref(impl.VText, atEmpty), ref(impl.VFun, atFar)}, []int{atKey, atEmpty, atBytes, atObj, atChild, atCell, atNext, atFun, atFar, atAlone, atScope}},
	} {
		for _, order := range orders(len(c.roots)) {
			var roots []int
			for _, i := range order {
				roots = append(roots, c.roots[i])
			}
			for range 3 {
				if got := impl.Reach(s, roots); !slices.Equal(got, c.want) {
					t.Errorf("from %v %v is reached, not %v", roots, got, c.want)
				}
				checkSight(t, "whole", s, roots)
				roots = append(roots, roots...)
			}
		}
	}
}

// Prototypes, cells and scopes in circles of all lengths, and functions through which scopes lead to themselves.
func TestP7Circles(t *testing.T) {
	for n := 1; n <= 6; n++ {
		for back := range n {
			s, obj, names := circleOf(n, back, 4)
			checkSight(t, "cells", s, []int{obj})
			checkSight(t, "cells", s, []int{names[0], obj, names[n]})
			r := ring(n, back)
			for i := range n {
				checkSight(t, "scopes", r, []int{ref(impl.VInner, 4*i)})
			}
			checkSight(t, "scopes", r, append(functionsOf(r), namesOf(r)...))
		}
	}
	for what, c := range map[string]struct {
		s     impl.Slab
		roots []int
		want  string
	}{
		"an object its own prototype": {heapOf(holding(impl.BkObj, ref(impl.VObj, 0), impl.VUndef)), []int{ref(impl.VObj, 0)}, "roots @0\nobj @0 undef\n"},
		"two prototypes":              {heapOf(holding(impl.BkObj, ref(impl.VObj, 3), impl.VUndef), holding(impl.BkObj, ref(impl.VObj, 0), impl.VUndef)), []int{ref(impl.VObj, 3)}, "roots @0\nobj @1 undef\nobj @0 undef\n"},
		"a cell its own next": {heapOf(holding(impl.BkCell, ref(impl.VText, 7), ref(impl.VObj, 4), ref(impl.VInner, 0)), holding(impl.BkObj, impl.VNull, ref(impl.VInner, 0)), holding(impl.BkText, 0)),
			[]int{ref(impl.VObj, 4)}, "roots @0\nobj null @1\ncell @2 @0 @1\ntext\n"},
		"a scope within itself": {heapOf(holding(impl.BkScope, ref(impl.VInner, 0), impl.VUndef)), []int{ref(impl.VInner, 0)}, "roots @0\nscope @0\n"},
		"two scopes":            {heapOf(holding(impl.BkScope, ref(impl.VInner, 2)), holding(impl.BkScope, ref(impl.VInner, 0))), []int{ref(impl.VInner, 2)}, "roots @0\nscope @1\nscope @0\n"},
		"a function in its own scope": {heapOf(holding(impl.BkFun, 7, ref(impl.VInner, 3)), holding(impl.BkScope, impl.VUndef, ref(impl.VFun, 0), impl.VUndef)),
			[]int{ref(impl.VFun, 0)}, "roots @0\nfun 7 @1\nscope undef @0\n"},
	} {
		if got := impl.Picture(c.s, c.roots); got != c.want {
			t.Errorf("%s: %q, not %q", what, got, c.want)
		}
		if got := impl.Reach(c.s, c.roots); !slices.Equal(got, impl.Blocks(c.s)) {
			t.Errorf("%s: %v is reached", what, got)
		}
		checkSight(t, what, c.s, c.roots)
	}
	// A circle that none leads to is not seen.
	s := heapOf(holding(impl.BkScope, ref(impl.VInner, 2)), holding(impl.BkScope, ref(impl.VInner, 0)), holding(impl.BkScope, impl.VUndef))
	if got := impl.Reach(s, []int{ref(impl.VInner, 4)}); !slices.Equal(got, []int{4}) {
		t.Errorf("beside a circle %v is reached", got)
	}
}

// goodRoots are values of each kind, and one of each that leads to a block of wholeHeap.
func goodRoots() []int {
	return []int{impl.VNull, impl.IntOf(4), ref(impl.VText, atKey), ref(impl.VObj, atObj), ref(impl.VFun, atFar), ref(impl.VInner, atScope)}
}

// wantUnseen: of roots that are not RootsOk nothing is told, and they look like none, not even like themselves.
func wantUnseen(t *testing.T, what string, s impl.Slab, roots []int) {
	t.Helper()
	if got := impl.Reach(s, roots); len(got) != 0 {
		t.Errorf("%s: from %v %v is reached", what, roots, got)
	}
	if got := impl.Picture(s, roots); got != "" {
		t.Errorf("%s: from %v is seen %q", what, roots, got)
	}
	whole := wholeHeap()
	if impl.SameSight(s, roots, s, roots) || impl.SameSight(s, roots, whole, nil) || impl.SameSight(whole, nil, s, roots) || impl.SameSight(s, roots, whole, goodRoots()) {
		t.Errorf("%s: SameSight from %v", what, roots)
	}
}

// Each value there is, alone and among others: roots that lead to a free block, into the middle of one, to one of another kind, beyond the last word, below nought.
func TestP7WrongRoots(t *testing.T) {
	s := wholeHeap()
	g := sightOf(s)
	for _, v := range []int{
		ref(impl.VText, atFree), ref(impl.VObj, atFree), ref(impl.VFun, atFree), ref(impl.VInner, atFree), ref(impl.VText, atKey+1), ref(impl.VObj, atObj+2), ref(impl.VInner, atScope+1),
		ref(impl.VInner, atCell), ref(impl.VInner, atNext), ref(impl.VInner, atObj), ref(impl.VInner, atFun), ref(impl.VObj, atScope), ref(impl.VText, atObj), ref(impl.VFun, atKey),
		ref(impl.VText, atEnd-1), ref(impl.VText, atEnd), ref(impl.VInner, 1999), ref(impl.VInner, 2000), ref(impl.VText, -1), ref(impl.VObj, -8), 8, 9, 18, math.MinInt, math.MaxInt,
	} {
		if g.root(v) {
			t.Fatalf("%d is a root", v)
		}
		for at := range len(goodRoots()) + 1 {
			wantUnseen(t, "among good ones", s, slices.Insert(goodRoots(), at, v))
		}
		wantUnseen(t, "alone", s, []int{v})
		wantUnseen(t, "twice", s, []int{v, v})
		wantUnseen(t, "behind one", s, []int{impl.VUndef, v})
	}
	for _, v := range anyValues() {
		checkSight(t, "any value", s, []int{v})
		checkSight(t, "any value behind", s, append(goodRoots(), v))
		if !g.root(v) {
			wantUnseen(t, "any value", s, []int{v})
		}
	}
}

// Both have to be right: where one is not, the other one's sight does not count.
func TestP7SameSight(t *testing.T) {
	whole, good := wholeHeap(), goodRoots()
	if !impl.SameSight(whole, good, whole, good) || !impl.SameSight(whole, nil, impl.Slab{}, nil) || !impl.SameSight(whole, []int{}, impl.Slab{Words: []int{}}, nil) {
		t.Error("the same sight is told apart")
	}
	if impl.SameSight(whole, good, whole, nil) || impl.SameSight(whole, nil, whole, good) || impl.SameSight(whole, nil, impl.Slab{}, []int{impl.VUndef}) {
		t.Error("other roots look the same")
	}
	// What can't be reached need not look alike, but has to be right.
	other := impl.Slab{Words: slices.Clone(whole.Words)}
	other.Words[atScope+4] = impl.IntOf(5)
	key := []int{ref(impl.VText, atKey)}
	if !impl.SameSight(whole, key, other, key) || impl.SameSight(whole, good, other, good) {
		t.Error("a value of the scope")
	}
	other.Words[atScope+4] = 8
	if impl.SameSight(whole, key, other, key) || impl.SameSight(other, key, whole, key) || impl.SameSight(other, key, other, key) || impl.SameSight(other, nil, other, nil) {
		t.Error("a word of the scope that is no value")
	}
	if impl.SameSight(other, nil, impl.Slab{Words: []int{8}}, nil) || impl.SameSight(whole, []int{8}, whole, []int{8}) {
		t.Error("what is not right looks like what is not right")
	}
}

// anyRoots: some roots of any kind that lead into the heap, and some that lead nowhere.
func anyRoots(rnd *dice, s impl.Slab) []int {
	all := append(append(append(scopesOf(s), functionsOf(s)...), objectsOf(s)...), namesOf(s)...)
	all = append(all, impl.VUndef, impl.VNull, impl.BoolOf(true), impl.IntOf(-12))
	var roots []int
	for range rnd.below(5) {
		roots = append(roots, all[rnd.below(len(all))])
	}
	return roots
}

func TestP7AnyHeap(t *testing.T) {
	rnd := &dice{777}
	parts := 0
	for round := range 1200 {
		s := anyScopes(rnd)
		if round%2 == 0 {
			s = anyHeap(rnd)
		}
		roots := anyRoots(rnd, s)
		checkSight(t, "any heap", s, roots)
		if n := len(impl.Reach(s, roots)); n > 1 && n < len(impl.Blocks(s))-1 {
			parts++
		}
		if t.Failed() {
			return
		}
	}
	if parts < 300 {
		t.Errorf("%d heaps of which a part is reached: too few to tell", parts)
	}
}

// planOf: a heap without its places: each block that is not free, and no words beside those that it needs.
func planOf(s impl.Slab, roots []int) plan {
	g := sightOf(s)
	numbers := make([]int, len(s.Words))
	var p plan
	for i, at := range g.places {
		numbers[at] = len(p.blocks)
		if g.kinds[i] != impl.BkFree {
			p.blocks = append(p.blocks, planned{kind: g.kinds[i]})
		}
	}
	for i, at := range g.places {
		if g.kinds[i] == impl.BkFree {
			continue
		}
		b := &p.blocks[numbers[at]]
		b.values = placed(g.valuesAt(at), numbers)
		switch b.kind {
		case impl.BkText:
			b.plain = slices.Clone(s.Words[at+2 : at+2+s.Words[at+1]])
		case impl.BkFun:
			b.plain = []int{s.Words[at+1]}
		}
	}
	p.roots = placed(roots, numbers)
	return p
}

// Any heap is laid anew, the blocks in any order and anything between them: it looks the same. Two heaps look the same where their pictures are alike.
func TestP7AnyHeapMoved(t *testing.T) {
	rnd := &dice{7777}
	var last impl.Slab
	var lastRoots []int
	for round := range 600 {
		s := anyScopes(rnd)
		if round%2 == 0 {
			s = anyHeap(rnd)
		}
		roots := anyRoots(rnd, s)
		p := planOf(s, roots)
		if round%3 == 0 {
			p = p.withUnreached()
		}
		moved, to := p.laid(shuffled(rnd, len(p.blocks)), rnd)
		if !impl.RootsOk(moved, to) || !impl.SameSight(s, roots, moved, to) || !impl.SameSight(moved, to, s, roots) {
			t.Fatalf("moved: not the same sight: %v from %v, %v from %v", s, roots, moved, to)
		}
		if got, want := impl.SameSight(s, roots, last, lastRoots), wantPicture(s, roots) == wantPicture(last, lastRoots); got != want {
			t.Fatalf("SameSight is %v: %v from %v, %v from %v", got, s, roots, last, lastRoots)
		}
		last, lastRoots = moved, to
	}
}

// madeTown: the same objects, scopes and functions made by the functions of the other chapters, with texts put early or late, and blocks taken and given between.
func madeTown(t *testing.T, size int, names []string, waste int) (impl.Slab, []int) {
	t.Helper()
	s, _ := impl.SlabNew(size)
	var wasted []int
	wasteOne := func() {
		if waste > 0 {
			var v int
			s, v = mustText(t, s, strings.Repeat("w", waste+len(wasted)))
			wasted = append(wasted, impl.Num(v))
		}
	}
	for _, name := range names {
		s, _ = mustText(t, s, name)
		wasteOne()
	}
	s, yard := mustScope(t, s, impl.VUndef, 2)
	s, base := mustObj(t, s, impl.VNull)
	wasteOne()
	for i := 0; i+1 < len(wasted); i += 2 {
		s = impl.Give(s, wasted[i])
	}
	s, child := mustObj(t, s, base)
	for i, name := range []string{"one", "two", ""} {
		var v int
		s, v = mustText(t, s, name)
		s = mustSet(t, s, base, v, impl.IntOf(i))
		s = mustSet(t, s, child, v, base)
	}
	s, hall := mustScope(t, s, yard, 3)
	s, f := mustFun(t, s, 42, hall)
	for i, v := range []int{child, f} {
		var ok bool
		if s, ok = impl.VarSet(s, hall, 1, i, v); !ok {
			t.Fatal("no value is set")
		}
	}
	return s, []int{f, impl.BoolOf(false), yard}
}

func TestP7Made(t *testing.T) {
	first, roots := madeTown(t, 100, nil, 0)
	want := "roots @0 false @1\nfun 42 @2\nscope undef @3 @0\nscope @1\nobj @4 @5\nobj null @6\ncell @7 @4 @8\ncell @7 0 @9\n" +
		"text 111 110 101\ncell @10 @4 @11\ncell @10 1 @12\ntext 116 119 111\ncell @13 @4 undef\ncell @13 2 undef\ntext\n"
	if got := impl.Picture(first, roots); got != want {
		t.Errorf("%q, not %q", got, want)
	}
	checkSight(t, "made", first, roots)
	for _, names := range [][]string{nil, {"one"}, {"two", "", "other", "one"}, {"", "x"}, {"two", "two"}} {
		for waste := range 7 {
			s, to := madeTown(t, 220, names, waste)
			if !impl.SameSight(first, roots, s, to) {
				t.Errorf("%q put ahead, waste %d: not the same sight: %q", names, waste, impl.Picture(s, to))
			}
			checkSight(t, "made", s, to)
			giveUnreached(t, s, to)
		}
	}
}

// giveUnreached gives each text that can't be reached, and there is nothing else that can't: what is seen stays, and no other block is left.
func giveUnreached(t *testing.T, s impl.Slab, roots []int) {
	t.Helper()
	reached := impl.Reach(s, roots)
	given := s
	for _, at := range impl.Blocks(s) {
		if impl.KindAt(s, at) == impl.BkText && !slices.Contains(reached, at) {
			given = impl.Give(given, at)
		}
	}
	if !impl.SameSight(s, roots, given, roots) || !slices.Equal(impl.Reach(given, roots), reached) {
		t.Errorf("what can't be reached was given, and is missed: %v, %v", s, given)
	}
	left := slices.DeleteFunc(impl.Blocks(given), func(at int) bool { return impl.KindAt(given, at) == impl.BkFree })
	if !slices.Equal(left, reached) {
		t.Errorf("%v is left, %v is reached", left, reached)
	}
}

func TestP21ReachOfWrongHeaps(t *testing.T) {
	wrong := wrongHeaps()
	for at, w := range map[int]int{atFun + 1: 100, atFar + 3: 1, atAlone + 1: impl.VNull, atScope + 9: ref(impl.VInner, atAlone), atChild + 3: 1, atBytes + 2: 256, atNext + 3: ref(impl.VInner, atObj), atFree: 0} {
		s := wholeHeap()
		s.Words[at] = w
		wrong[fmt.Sprintf("whole, wrong at %d", at)] = s
	}
	for what, plain := range wrong {
		s := withRoom(plain)
		before := wholeOf(s)
		for _, roots := range [][]int{nil, {}, {impl.VUndef}, {impl.IntOf(1), impl.VNull}, {ref(impl.VText, 0)}, {ref(impl.VObj, atObj)}, goodRoots(), {math.MinInt}, {math.MaxInt}, {math.MaxInt, impl.VNull, math.MinInt}} {
			wantUnseen(t, what, s, roots)
			spoilCopy(t, s, before, impl.Slab{Words: impl.Reach(s, roots)})
		}
	}
}

// A slab of no words is a heap in which nothing is to be seen but roots that lead nowhere.
func TestP21ReachNoWords(t *testing.T) {
	for what, s := range map[string]impl.Slab{"nil": {}, "no words": {Words: []int{}}} {
		for _, v := range append(edgeNumbers(), anyValues()...) {
			checkSight(t, what, s, []int{v})
			if impl.Kind(v) >= impl.VText {
				wantUnseen(t, what, s, []int{v})
			}
		}
		checkSight(t, what, s, nil)
		if got := impl.Picture(s, []int{impl.VNull, impl.IntOf(2)}); got != "roots null 2\n" {
			t.Errorf("%s: %q", what, got)
		}
	}
}

// Many roots, that all lead to one block, or are plain, or one of which is wrong.
func TestP21ManyRoots(t *testing.T) {
	const many = 50000
	s := wholeHeap()
	roots := slices.Repeat([]int{ref(impl.VInner, atAlone), impl.VNull}, many)
	if got := impl.Picture(s, roots); got != "roots"+strings.Repeat(" @0 null", many)+"\nscope\n" {
		t.Errorf("many roots: %d bytes", len(got))
	}
	if got := impl.Reach(s, roots); !slices.Equal(got, []int{atAlone}) {
		t.Errorf("from many roots %v is reached", got)
	}
	if !impl.SameSight(s, roots, s, slices.Clone(roots)) || impl.SameSight(s, roots, s, roots[2:]) {
		t.Error("many roots look the same, or not")
	}
	roots[len(roots)-1] = 9
	if impl.Picture(s, roots) != "" || len(impl.Reach(s, roots)) != 0 || impl.SameSight(s, roots, s, roots) {
		t.Error("the last of many roots is wrong")
	}
}

// Each function at the ends of int and with roots that are right: nothing that was handed in is changed, nor what lies behind it, and what is handed back may be.
func TestP21Reach(t *testing.T) {
	town, townRoots := town().straight()
	for what, c := range map[string]struct {
		s     impl.Slab
		roots []int
	}{
		"whole":    {wholeHeap(), goodRoots()},
		"town":     {town, townRoots},
		"no roots": {town, nil},
		"least":    {wholeHeap(), append(goodRoots(), math.MinInt)},
		"greatest": {wholeHeap(), append(goodRoots(), math.MaxInt)},
		"ends":     {wholeHeap(), []int{math.MinInt, math.MaxInt, math.MinInt + 4, math.MaxInt - 3, math.MinInt + 7}},
		"no words": {impl.Slab{}, []int{impl.VNull}},
	} {
		s, roots := withRoom(c.s), withRoom(impl.Slab{Words: c.roots})
		before, rootsBefore := wholeOf(s), wholeOf(roots)
		checkSight(t, what, s, roots.Words)
		impl.SameSight(s, roots.Words, town, townRoots)
		impl.SameSight(town, townRoots, s, roots.Words)
		got := impl.Reach(s, roots.Words)
		keep := slices.Clone(got)
		spoilCopy(t, s, before, impl.Slab{Words: got})
		if !slices.Equal(wholeOf(roots), rootsBefore) {
			t.Errorf("%s: roots that were handed in are changed", what)
		}
		// What one call has handed back is not what the next one hands back.
		if again := impl.Reach(s, roots.Words); !slices.Equal(again, keep) {
			t.Errorf("%s: Reach after its answer was spoilt: %v, not %v", what, again, keep)
		}
	}
}
