package tests

import (
	"fmt"
	"math"
	"runtime"
	"slices"
	"strings"
	"sync"
	"testing"

	"loop.example/g00242/impl"
)

// takenIn: the numbers of the blocks that are not free.
func (g sight) takenIn() []int {
	var out []int
	for i, kind := range g.kinds {
		if kind != impl.BkFree {
			out = append(out, i)
		}
	}
	return out
}

// wantForward: the place of a block is how many words all those have that lie ahead of it and are not free.
func wantForward(s impl.Slab) []int {
	g := sightOf(s)
	if !g.heap() {
		return nil
	}
	var out []int
	for _, i := range g.takenIn() {
		words := 0
		for j := range i {
			if g.kinds[j] != impl.BkFree {
				words += g.sizes[j]
			}
		}
		out = append(out, words)
	}
	return out
}

// mover: wantMoved of a slab, worked out once for many values.
func mover(s impl.Slab) func(v int) int {
	g, goes := sightOf(s), map[int]int{}
	for n, to := range wantForward(s) {
		goes[g.places[g.takenIn()[n]]] = to
	}
	heap := g.heap()
	return func(v int) int {
		if at, ok := g.goal(v); ok && heap {
			return ref(leftOver(v, 8), goes[at])
		}
		return v
	}
}

func wantMoved(s impl.Slab, v int) int { return mover(s)(v) }

func wantSlide(s impl.Slab, roots []int) (impl.Slab, []int) {
	g := sightOf(s)
	if !g.rootsOk(roots) {
		return impl.Slab{}, nil
	}
	moved := mover(s)
	var words, to []int
	for _, i := range g.takenIn() {
		at := g.places[i]
		slots := g.slots(at)
		for n := at; n < at+g.sizes[i]; n++ {
			if slices.Contains(slots, n) {
				words = append(words, moved(s.Words[n]))
			} else {
				words = append(words, s.Words[n])
			}
		}
	}
	if left := len(s.Words) - len(words); left > 0 {
		words = append(words, heapOf(room(left)).Words...)
	}
	for _, v := range roots {
		to = append(to, moved(v))
	}
	return impl.Slab{Words: words}, to
}

func wantCollect(s impl.Slab, roots []int) impl.Slab {
	if !sightOf(s).rootsOk(roots) {
		return impl.Slab{}
	}
	swept, _ := wantSweep(s, wantStart(s, roots))
	return swept
}

func wantTidy(s impl.Slab, roots []int) (impl.Slab, []int) {
	if !sightOf(s).rootsOk(roots) {
		return impl.Slab{}, nil
	}
	return wantSlide(wantCollect(s, roots), roots)
}

// checkSlides holds what each function tells of a slab, values and roots against what the chapter's words say.
func checkSlides(t *testing.T, what string, s impl.Slab, values, roots []int) {
	t.Helper()
	if got, want := impl.Forward(s), wantForward(s); !slices.Equal(got, want) {
		t.Errorf("%s: Forward is %v, not %v, of %v", what, got, want, s)
	}
	moved := mover(s)
	for _, v := range values {
		if got := impl.Moved(s, v); got != moved(v) {
			t.Errorf("%s: %d is Moved to %d, not %d, of %v", what, v, got, moved(v), s)
		}
	}
	got, to := impl.Slide(s, roots)
	if want, then := wantSlide(s, roots); !sameWords(got, want) || !slices.Equal(to, then) {
		t.Errorf("%s: Slide by %v is %v, %v, not %v, %v, of %v", what, roots, got, to, want, then, s)
	}
	got, to = impl.Tidy(s, roots)
	if want, then := wantTidy(s, roots); !sameWords(got, want) || !slices.Equal(to, then) {
		t.Errorf("%s: Tidy by %v is %v, %v, not %v, %v, of %v", what, roots, got, to, want, then, s)
	}
}

// takenPlaces: the places of all blocks that are not free.
func takenPlaces(s impl.Slab) []int {
	return slices.DeleteFunc(impl.Blocks(s), func(at int) bool { return impl.KindAt(s, at) == impl.BkFree })
}

// checkOneRoom: blocks that are not free one behind the other, and all room one block behind them, which can be taken as a whole.
func checkOneRoom(t *testing.T, what string, s impl.Slab) {
	t.Helper()
	end := 0
	for _, at := range takenPlaces(s) {
		if at != end {
			t.Fatalf("%s: a block at %d, where the one ahead of it ends at %d, of %v", what, at, end, s)
		}
		end += impl.SizeAt(s, at)
	}
	left := len(s.Words) - end
	if impl.Room(s) != left || len(impl.Blocks(s)) != len(takenPlaces(s))+min(left, 1) {
		t.Fatalf("%s: room is %d behind %d of %d words, in %d blocks: %v", what, impl.Room(s), end, len(s.Words), len(impl.Blocks(s))-len(takenPlaces(s)), s)
	}
	if left == 0 {
		return
	}
	if slices.ContainsFunc(s.Words[end+1:], func(w int) bool { return w != 0 }) {
		t.Fatalf("%s: words of the free block are not 0: %v", what, s)
	}
	if _, at, ok := impl.Take(s, impl.BkText, left); !ok || at != end {
		t.Fatalf("%s: %d words can't be taken at %d: %d, %v, of %v", what, left, end, at, ok, s)
	}
}

// checkSlid: the promise itself, of what is RootsOk.
func checkSlid(t *testing.T, what string, s impl.Slab, roots []int) (impl.Slab, []int) {
	t.Helper()
	if !impl.RootsOk(s, roots) {
		t.Fatalf("%s: no heap: %v by %v", what, s, roots)
	}
	got, to := impl.Slide(s, roots)
	if want, then := wantSlide(s, roots); !sameWords(got, want) || !slices.Equal(to, then) {
		t.Fatalf("%s: Slide by %v is %v, %v, not %v, %v, of %v", what, roots, got, to, want, then, s)
	}
	if !impl.SameSight(s, roots, got, to) || !impl.RootsOk(got, to) || len(got.Words) != len(s.Words) || impl.Room(got) != impl.Room(s) {
		t.Fatalf("%s: slid it looks otherwise: %v by %v, of %v by %v", what, got, to, s, roots)
	}
	goes, was := impl.Forward(s), takenPlaces(s)
	if !slices.Equal(goes, takenPlaces(got)) || len(goes) != len(was) {
		t.Fatalf("%s: blocks lie at %v, not at %v", what, takenPlaces(got), goes)
	}
	for i, at := range was {
		if impl.KindAt(got, goes[i]) != impl.KindAt(s, at) || impl.SizeAt(got, goes[i]) != impl.SizeAt(s, at) {
			t.Fatalf("%s: the block at %d is another one than that at %d: %v of %v", what, goes[i], at, got, s)
		}
	}
	for i, v := range roots {
		if impl.Moved(s, v) != to[i] {
			t.Fatalf("%s: root %d is %d, not Moved", what, i, to[i])
		}
	}
	checkOneRoom(t, what, got)
	if again := impl.Forward(got); !slices.Equal(again, goes) {
		t.Fatalf("%s: Forward of what was slid is %v, not %v", what, again, goes)
	}
	if again, then := impl.Slide(got, to); !sameWords(again, got) || !slices.Equal(then, to) {
		t.Fatalf("%s: slid again: %v, %v, not %v, %v", what, again, then, got, to)
	}
	return got, to
}

// checkTidied: the promise of Tidy, of what is RootsOk.
func checkTidied(t *testing.T, what string, s impl.Slab, roots []int) (impl.Slab, []int) {
	t.Helper()
	got, to := impl.Tidy(s, roots)
	if want, then := wantTidy(s, roots); !sameWords(got, want) || !slices.Equal(to, then) {
		t.Fatalf("%s: Tidy by %v is %v, %v, not %v, %v, of %v", what, roots, got, to, want, then, s)
	}
	if !impl.SameSight(s, roots, got, to) || len(got.Words) != len(s.Words) {
		t.Fatalf("%s: tidied it looks otherwise: %v by %v, of %v by %v", what, got, to, s, roots)
	}
	if impl.Waste(got, to) != 0 || impl.Room(got) != impl.Room(s)+impl.Waste(s, roots) || !slices.Equal(impl.Reach(got, to), takenPlaces(got)) {
		t.Fatalf("%s: waste is %d and %d behind it, room %d and %d, of %v", what, impl.Waste(s, roots), impl.Waste(got, to), impl.Room(s), impl.Room(got), s)
	}
	checkOneRoom(t, what, got)
	for _, f := range []func(impl.Slab, []int) (impl.Slab, []int){impl.Slide, impl.Tidy} {
		if again, then := f(got, to); !sameWords(again, got) || !slices.Equal(then, to) {
			t.Fatalf("%s: tidied again: %v, %v, not %v, %v", what, again, then, got, to)
		}
	}
	return got, to
}

// checkBoth slides and tidies; slid ahead of being tidied it comes to the same.
func checkBoth(t *testing.T, what string, s impl.Slab, roots []int) {
	t.Helper()
	slid, to := checkSlid(t, what, s, roots)
	tidied, then := checkTidied(t, what, s, roots)
	if got, last := impl.Tidy(slid, to); !sameWords(got, tidied) || !slices.Equal(last, then) {
		t.Fatalf("%s: slid and tidied: %v, %v, not %v, %v", what, got, last, tidied, then)
	}
}

// spread lays the blocks in their order, each with so many words more than it needs, and a free block of so many words, full of one word, ahead of each and behind the last one; none where that is 0.
func (p plan) spread(gaps, spares []int, fill int) (impl.Slab, []int) {
	places, at := make([]int, len(p.blocks)), 0
	for i, b := range p.blocks {
		at += gaps[i]
		places[i] = at
		at += len(b.body(make([]int, len(p.blocks)), spares[i]).words) + 1
	}
	var bodies []body
	for i, gap := range gaps {
		if gap > 0 {
			bodies = append(bodies, holding(impl.BkFree, slices.Repeat([]int{fill}, gap-1)...))
		}
		if i < len(p.blocks) {
			bodies = append(bodies, p.blocks[i].body(places, spares[i]))
		}
	}
	return heapOf(bodies...), placed(p.roots, places)
}

// ordered: the same blocks in another order.
func (p plan) ordered(order []int) plan {
	number, q := make([]int, len(order)), plan{}
	for n, i := range order {
		number[i] = n
	}
	for _, i := range order {
		b := p.blocks[i]
		q.blocks = append(q.blocks, planned{b.kind, slices.Clone(b.plain), placed(b.values, number)})
	}
	q.roots = placed(p.roots, number)
	return q
}

// checkSpread: laid with these gaps and slid, it is what is laid with all of them behind the last block.
func checkSpread(t *testing.T, what string, p plan, gaps, spares []int) {
	t.Helper()
	total := 0
	for _, gap := range gaps {
		total += gap
	}
	last := make([]int, len(gaps))
	last[len(p.blocks)] = total
	s, roots := p.spread(gaps, spares, ref(impl.VText, gaps[0]))
	want, then := p.spread(last, spares, 0)
	if got, to := checkSlid(t, what, s, roots); !sameWords(got, want) || !slices.Equal(to, then) {
		t.Fatalf("%s: gaps %v: %v, %v, not %v, %v", what, gaps, got, to, want, then)
	}
}

func gapAt(n, at, size int) []int {
	gaps := make([]int, n)
	gaps[at] = size
	return gaps
}

// Word for word: blocks of every kind, with free ones as the first, as the last, between, and two side by side.
func TestP10WordForWord(t *testing.T) {
	junk := holding(impl.BkFree, ref(impl.VText, 3), math.MinInt)
	s := heapOf(
		junk,                              // 0
		holding(impl.BkText, 2, 'h', 'i'), // 3
		holding(impl.BkScope, impl.VUndef, ref(impl.VFun, 19), ref(impl.VObj, 15), impl.VNull), // 7
		holding(impl.BkFree, 9, 9),                               // 12
		holding(impl.BkObj, impl.VNull, ref(impl.VInner, 28), 0), // 15
		holding(impl.BkFun, 28, ref(impl.VInner, 7)),             // 19
		junk, // 22
		junk, // 25
		holding(impl.BkCell, ref(impl.VText, 3), ref(impl.VObj, 15), ref(impl.VInner, 32)), // 28
		holding(impl.BkCell, ref(impl.VText, 39), impl.IntOf(28), impl.VUndef, 0),          // 32
		holding(impl.BkFree, 7),    // 37
		holding(impl.BkText, 0, 0), // 39
		holding(impl.BkScope, ref(impl.VInner, 7), ref(impl.VText, 39), impl.VUndef, impl.IntOf(-3), impl.VUndef), // 42
		junk, // 48
	)
	roots := []int{ref(impl.VInner, 42), impl.IntOf(42), ref(impl.VFun, 19), ref(impl.VText, 39), impl.VNull, ref(impl.VText, 3), ref(impl.VObj, 15), ref(impl.VInner, 7), impl.VUndef, impl.BoolOf(true), ref(impl.VInner, 42)}
	want := heapOf(
		holding(impl.BkText, 2, 'h', 'i'), // 0
		holding(impl.BkScope, impl.VUndef, ref(impl.VFun, 13), ref(impl.VObj, 9), impl.VNull),                     // 4
		holding(impl.BkObj, impl.VNull, ref(impl.VInner, 16), 0),                                                  // 9
		holding(impl.BkFun, 28, ref(impl.VInner, 4)),                                                              // 13
		holding(impl.BkCell, ref(impl.VText, 0), ref(impl.VObj, 9), ref(impl.VInner, 20)),                         // 16
		holding(impl.BkCell, ref(impl.VText, 25), impl.IntOf(28), impl.VUndef, 0),                                 // 20
		holding(impl.BkText, 0, 0),                                                                                // 25
		holding(impl.BkScope, ref(impl.VInner, 4), ref(impl.VText, 25), impl.VUndef, impl.IntOf(-3), impl.VUndef), // 28
		room(17), // 34
	)
	then := []int{ref(impl.VInner, 28), impl.IntOf(42), ref(impl.VFun, 13), ref(impl.VText, 25), impl.VNull, ref(impl.VText, 0), ref(impl.VObj, 9), ref(impl.VInner, 4), impl.VUndef, impl.BoolOf(true), ref(impl.VInner, 28)}
	if got := impl.Forward(s); !slices.Equal(got, []int{0, 4, 9, 13, 16, 20, 25, 28}) {
		t.Errorf("Forward is %v", got)
	}
	for _, f := range []func(impl.Slab, []int) (impl.Slab, []int){impl.Slide, impl.Tidy} {
		if got, to := f(s, roots); !sameWords(got, want) || !slices.Equal(to, then) {
			t.Errorf("%v, %v, not %v, %v", got, to, want, then)
		}
	}
	checkBoth(t, "word for word", s, roots)
	// From one function on: the last text and the last scope can't be reached.
	left := impl.Slab{Words: append(slices.Clone(want.Words[:28]), heapOf(room(23)).Words...)}
	if got, to := impl.Tidy(s, []int{ref(impl.VFun, 19)}); !sameWords(got, left) || !slices.Equal(to, []int{ref(impl.VFun, 13)}) {
		t.Errorf("from the function: %v, %v, not %v", got, to, left)
	}
	if got, to := impl.Tidy(s, []int{ref(impl.VText, 39), impl.VNull}); !sameWords(got, heapOf(holding(impl.BkText, 0, 0), room(48))) || !slices.Equal(to, []int{ref(impl.VText, 0), impl.VNull}) {
		t.Errorf("from the last text: %v, %v", got, to)
	}
}

// The town with a free block of each size at each place alone, at each two places, and at all of them.
func TestP10WhereFreeBlocksLie(t *testing.T) {
	p := town().withUnreached()
	n := len(p.blocks) + 1
	none := make([]int, n)
	checkSpread(t, "no free block", p, none, none)
	for at := range n {
		for size := 2; size < 9; size++ {
			checkSpread(t, fmt.Sprintf("%d words at %d", size, at), p, gapAt(n, at, size), none)
		}
		for other := range at {
			gaps := gapAt(n, at, 2)
			gaps[other] = 3
			checkSpread(t, fmt.Sprintf("at %d and %d", other, at), p, gaps, none)
		}
	}
	for size := 2; size < 9; size++ {
		checkSpread(t, "everywhere", p, slices.Repeat([]int{size}, n), none)
	}
}

// The town in any order, with any free blocks, blocks that have more words than they need, and some that can't be reached: from words ahead of the block that they lead to and behind it values of every sort are met.
func TestP10Town(t *testing.T) {
	rnd := &dice{10}
	count := map[string]int{}
	for round := range 200 {
		p := town()
		if round%2 == 1 {
			p = p.withUnreached()
		}
		p = p.ordered(shuffled(rnd, len(p.blocks)))
		gaps, spares := make([]int, len(p.blocks)+1), make([]int, len(p.blocks))
		for i := range gaps {
			if rnd.below(3) == 0 {
				gaps[i] = 2 + rnd.below(5)
			}
		}
		for i, b := range p.blocks {
			spares[i] = spareOf(rnd, b.kind)
		}
		what := fmt.Sprintf("round %d", round)
		checkSpread(t, what, p, gaps, spares)
		s, roots := p.spread(gaps, spares, math.MinInt+5)
		checkBoth(t, what, s, roots)
		if round%20 == 0 {
			all := append(append(scopesOf(s), functionsOf(s)...), objectsOf(s)...)
			for _, v := range append(all, namesOf(s)...) {
				checkBoth(t, what+", a part", s, []int{v})
			}
			checkBoth(t, what+", nothing", s, nil)
		}
		countLinks(s, count)
	}
	// Of an object its prototype and first cell, of a cell its name, value and next one, of a function its scope, of a scope its outer one and its values.
	for _, link := range []string{"2.1", "2.2", "3.1", "3.2", "3.3", "4.2", "5.1", "5.2"} {
		for _, way := range []string{" ahead", " behind"} {
			if count[link+way] < 50 {
				t.Errorf("%d values%s at %s: too few to tell; %v", count[link+way], way, link, count)
			}
		}
	}
	for _, link := range []string{"2.1 itself", "3.3 itself"} {
		if count[link] < 50 {
			t.Errorf("%d values: %s: too few to tell", count[link], link)
		}
	}
}

// countLinks: by the block's kind and the word's number (2 for all values of a scope) how many values lead to a block ahead, behind, and to the block itself, and move.
func countLinks(s impl.Slab, count map[string]int) {
	g := sightOf(s)
	for i, at := range g.places {
		for _, slot := range g.slots(at) {
			v := s.Words[slot]
			to, ok := g.goal(v)
			if !ok || wantMoved(s, v) == v {
				continue
			}
			way := " itself"
			if to < at {
				way = " ahead"
			} else if to > at {
				way = " behind"
			}
			n := slot - at
			if g.kinds[i] == impl.BkScope {
				n = min(n, 2)
			}
			count[fmt.Sprintf("%d.%d%s", g.kinds[i], n, way)]++
		}
	}
}

// Each kind of value within a block, to a block ahead, behind and to itself, with one free block first: it leads to the same block as before.
func TestP10ValuesWithinBlocks(t *testing.T) {
	text, obj, scope := planned{impl.BkText, []int{'a'}, nil}, planned{impl.BkObj, nil, []int{impl.VNull, impl.VUndef}}, planned{impl.BkScope, nil, []int{impl.VUndef}}
	cell, fun := planned{impl.BkCell, nil, []int{ref(impl.VText, 0), impl.VUndef, impl.VUndef}}, planned{impl.BkFun, []int{7}, []int{ref(impl.VInner, 2)}}
	type at struct{ block, value, word int }
	for what, c := range map[string]at{
		"a prototype":                          {1, 0, ref(impl.VObj, 6)},
		"its own prototype":                    {1, 0, ref(impl.VObj, 1)},
		"a first cell":                         {1, 1, ref(impl.VInner, 3)},
		"a cell's name":                        {3, 0, ref(impl.VText, 5)},
		"a cell's value, text":                 {3, 1, ref(impl.VText, 0)},
		"a cell's value, object":               {3, 1, ref(impl.VObj, 6)},
		"a cell's value, function":             {3, 1, ref(impl.VFun, 4)},
		"a cell's value, number":               {3, 1, impl.IntOf(3)},
		"a cell's value, null":                 {3, 1, impl.VNull},
		"a cell's value, true":                 {3, 1, impl.BoolOf(true)},
		"a next cell":                          {3, 2, ref(impl.VInner, 7)},
		"its own next cell":                    {3, 2, ref(impl.VInner, 3)},
		"a function's scope":                   {4, 0, ref(impl.VInner, 8)},
		"an outer scope":                       {2, 0, ref(impl.VInner, 8)},
		"its own outer scope":                  {2, 0, ref(impl.VInner, 2)},
		"a value of a scope, text":             {2, 1, ref(impl.VText, 5)},
		"a value of a scope, object":           {2, 1, ref(impl.VObj, 1)},
		"a value of a scope, its own function": {2, 1, ref(impl.VFun, 4)},
		"a value of a scope, number":           {2, 1, impl.IntOf(-2)},
		"a value of a scope, false":            {2, 1, impl.BoolOf(false)},
	} {
		p := plan{blocks: []planned{text, obj, scope, cell, fun, text, obj, cell, scope}}.clone()
		p.blocks[2].values = append(p.blocks[2].values, impl.VUndef, impl.VUndef)
		p.blocks[c.block].values[c.value] = c.word
		for i, b := range p.blocks {
			if kind := []int{0, impl.VText, impl.VObj, 0, impl.VFun, impl.VInner}[b.kind]; kind > 0 {
				p.roots = append(p.roots, ref(kind, i))
			}
		}
		back := []int{8, 7, 6, 5, 4, 3, 2, 1, 0}
		for _, q := range []plan{p, p.ordered(back)} {
			n := len(q.blocks)
			for first := range n + 1 {
				checkSpread(t, what, q, gapAt(n+1, first, 2), make([]int, n))
				checkSpread(t, what, q, gapAt(n+1, first, 5), []int{1, 1, 1, 1, 1, 1, 1, 1, 1})
			}
		}
	}
}

// Words that are no values, and look like values that lead to a block that moves: bytes of texts, how many there are, numbers of functions, first words, words of free blocks.
func TestP10WordsThatAreNoValues(t *testing.T) {
	// The places 2, 5, 8 and 11 are those of a text, an object, a function and a scope, ahead of which 2 words are free.
	s := heapOf(room(2), holding(impl.BkText, 1, 'x'), holding(impl.BkObj, impl.VNull, impl.VUndef), holding(impl.BkFun, 20, ref(impl.VInner, 11)), holding(impl.BkScope, impl.VUndef))
	looks := []int{ref(impl.VText, 2), ref(impl.VObj, 5), ref(impl.VFun, 8), ref(impl.VInner, 11)}
	for _, v := range looks {
		if impl.Moved(s, v) != v-16 || v > 99 {
			t.Fatalf("%d is no such value", v)
		}
		bytes := slices.Repeat([]int{v}, v)
		with := heapOf(room(2), holding(impl.BkText, 1, v), holding(impl.BkObj, impl.VNull, impl.VUndef), holding(impl.BkFun, v, ref(impl.VInner, 11)), holding(impl.BkScope, impl.VUndef, impl.IntOf(v)),
			holding(impl.BkText, append([]int{v}, bytes...)...), holding(impl.BkFree, v, v, v), holding(impl.BkText, 1, v, 0, 0))
		want := heapOf(holding(impl.BkText, 1, v), holding(impl.BkObj, impl.VNull, impl.VUndef), holding(impl.BkFun, v, ref(impl.VInner, 9)), holding(impl.BkScope, impl.VUndef, impl.IntOf(v)),
			holding(impl.BkText, append([]int{v}, bytes...)...), holding(impl.BkText, 1, v, 0, 0), room(6))
		if got, to := impl.Slide(with, looks); !sameWords(got, want) || !slices.Equal(to, []int{ref(impl.VText, 0), ref(impl.VObj, 3), ref(impl.VFun, 6), ref(impl.VInner, 9)}) {
			t.Errorf("%d: %v, %v, not %v", v, got, to, want)
		}
		checkBoth(t, "looks like a value", with, looks)
	}
	// First words: 8 times 3 and BkFun looks like the text at 3, 8 times 5 and BkScope like the object at 5.
	heads := heapOf(room(3), holding(impl.BkText, 0), holding(impl.BkObj, impl.VNull, impl.VUndef), holding(impl.BkFun, 3, ref(impl.VInner, 11)), holding(impl.BkScope, impl.VUndef, 0, 0, 0))
	if impl.Moved(heads, heads.Words[8]) == heads.Words[8] || impl.Moved(heads, heads.Words[11]) == heads.Words[11] {
		t.Fatalf("first words that look like nothing: %v", heads)
	}
	want := heapOf(holding(impl.BkText, 0), holding(impl.BkObj, impl.VNull, impl.VUndef), holding(impl.BkFun, 3, ref(impl.VInner, 8)), holding(impl.BkScope, impl.VUndef, 0, 0, 0), room(3))
	if got, _ := impl.Slide(heads, nil); !sameWords(got, want) {
		t.Errorf("first words: %v, not %v", got, want)
	}
	checkBoth(t, "first words", heads, []int{ref(impl.VFun, 8)})
}

// Where values go: each one there is, in slabs where it leads to a block that moves, to one that stays, and nowhere.
func TestP10Moved(t *testing.T) {
	s := wholeHeap()
	ahead := func(n int) impl.Slab {
		p := planOf(s, nil)
		gaps := make([]int, len(p.blocks)+1)
		gaps[0] = n
		out, _ := p.spread(gaps, make([]int, len(p.blocks)), 3)
		return out
	}
	slabs := map[string]impl.Slab{"whole": s, "none free": ahead(0), "2 ahead": ahead(2), "3 ahead": ahead(3), "20 ahead": ahead(20), "no words": {}}
	town, roots := town().spread(slices.Repeat([]int{2}, 14), make([]int, 13), 4)
	slabs["town"] = town
	values := append(append(append(edgeNumbers(), anyValues()...), roots...), somewhere(town)...)
	for what, x := range slabs {
		checkSlides(t, what, x, values, nil)
	}
	x := ahead(2)
	places := takenPlaces(x)
	for i, at := range places {
		for kind := impl.VUndef; kind <= impl.VInner; kind++ {
			v, want := ref(kind, at), ref(kind, at)
			// VInner leads to a cell from some words, to a scope from others: either moves.
			if slices.Contains([][]int{nil, {impl.VText}, {impl.VObj}, {impl.VInner}, {impl.VFun}, {impl.VInner}}[impl.KindAt(x, at)], kind) {
				want = ref(kind, impl.Forward(x)[i])
			}
			if got := impl.Moved(x, v); got != want {
				t.Errorf("kind %d at %d: %d, not %d", kind, at, got, want)
			}
			if got := impl.Moved(x, ref(kind, at+1)); got != ref(kind, at+1) {
				t.Errorf("kind %d, in the middle of the block at %d: %d", kind, at, got)
			}
		}
	}
	for _, v := range []int{ref(impl.VText, 0), ref(impl.VInner, 0), ref(impl.VText, len(x.Words)), ref(impl.VObj, -1), ref(impl.VText, 1999), ref(impl.VText, 2000), math.MinInt, math.MaxInt} {
		if got := impl.Moved(x, v); got != v {
			t.Errorf("%d leads nowhere and is %d", v, got)
		}
	}
}

// Roots of every kind, the same one twice, none, and ones that lead to no block.
func TestP10Roots(t *testing.T) {
	p := town().withUnreached()
	n := len(p.blocks)
	s, all := p.spread(slices.Repeat([]int{3}, n+1), make([]int, n), math.MaxInt)
	slid, _ := impl.Slide(s, nil)
	for what, roots := range map[string][]int{
		"none": nil, "a list of none": {}, "no block": {impl.VUndef, impl.VNull, impl.BoolOf(true), impl.BoolOf(false), impl.IntOf(3), impl.IntOf(theLeast), impl.IntOf(2147483647)},
		"all": all, "twice": append(slices.Clone(all), all...), "many times": slices.Repeat(all, 300), "one twice": {all[0], all[0]},
	} {
		got, to := checkSlid(t, what, s, roots)
		if !sameWords(got, slid) || len(to) != len(roots) {
			t.Errorf("%s: %d roots, %v, not %v", what, len(to), got, slid)
		}
		checkTidied(t, what, s, roots)
	}
	for _, v := range append(append(append(scopesOf(s), functionsOf(s)...), objectsOf(s)...), namesOf(s)...) {
		got, to := checkSlid(t, "one root", s, []int{v})
		if !sameWords(got, slid) || to[0] == v || impl.Kind(to[0]) != impl.Kind(v) {
			t.Errorf("root %d is %v, in %v", v, to, got)
		}
		tidied, then := checkTidied(t, "one root", s, []int{v})
		if len(then) != 1 || impl.Kind(then[0]) != impl.Kind(v) || len(impl.Reach(s, []int{v})) != len(takenPlaces(tidied)) {
			t.Errorf("root %d is %v, in %v", v, then, tidied)
		}
	}
	// Of nothing that can be reached nothing is left.
	if got, to := impl.Tidy(s, nil); !sameWords(got, heapOf(room(len(s.Words)))) || len(to) != 0 {
		t.Errorf("by no roots: %v, %v", got, to)
	}
}

// A root that leads nowhere, though it would lead somewhere in what is slid, or in what Collect tells of what is wrong: nothing is told.
func TestP10RootsThatLeadNowhere(t *testing.T) {
	s := heapOf(room(3), holding(impl.BkText, 1, 'a'), holding(impl.BkCell, ref(impl.VText, 3), impl.VNull, impl.VUndef), holding(impl.BkScope, impl.VUndef), holding(impl.BkFree, 0), holding(impl.BkObj, impl.VNull, impl.VUndef))
	slid, _ := impl.Slide(s, nil)
	good := []int{ref(impl.VText, 3), impl.VNull, ref(impl.VInner, 10), ref(impl.VObj, 14)}
	would := []int{ref(impl.VText, 0), ref(impl.VInner, 7), ref(impl.VObj, 9)}
	if !impl.RootsOk(slid, would) {
		t.Fatalf("they lead nowhere in %v", slid)
	}
	for _, v := range append(would, ref(impl.VInner, 6), ref(impl.VInner, 3), ref(impl.VText, 4), ref(impl.VText, 12), ref(impl.VFun, 14), ref(impl.VText, 17), ref(impl.VObj, 2000), -4, 8, 9, 18, math.MinInt, math.MaxInt) {
		for _, roots := range [][]int{{v}, {v, v}, append(slices.Clone(good), v), append([]int{v}, good...)} {
			wantTakenBack(t, fmt.Sprintf("root %d", v), s, roots)
		}
	}
	checkBoth(t, "good ones", s, good)
	// A block that is not right, be it reached or not; the roots lead to no block, and would be right of a slab of no words.
	broken := heapOf(room(3), holding(impl.BkText, 1, 256), holding(impl.BkScope, impl.VUndef))
	for _, roots := range [][]int{nil, {}, {impl.VNull}, {impl.VUndef, impl.IntOf(4), impl.BoolOf(true)}, {ref(impl.VInner, 6)}} {
		wantTakenBack(t, "broken", broken, roots)
	}
	whole := wholeHeap()
	g := sightOf(whole)
	for _, v := range anyValues() {
		checkSlides(t, "any root", whole, nil, []int{v})
		if !g.root(v) {
			wantTakenBack(t, "any root", whole, append(goodRoots(), v))
		}
	}
}

// wantTakenBack: zero and nothing, of Slide and of Tidy.
func wantTakenBack(t *testing.T, what string, s impl.Slab, roots []int) {
	t.Helper()
	if got, to := impl.Slide(s, roots); len(got.Words) != 0 || len(to) != 0 {
		t.Errorf("%s: Slide by %v is %v, %v, of %v", what, roots, got, to, s)
	}
	if got, to := impl.Tidy(s, roots); len(got.Words) != 0 || len(to) != 0 {
		t.Errorf("%s: Tidy by %v is %v, %v, of %v", what, roots, got, to, s)
	}
}

// Slabs with no free block, with a free one alone, with what is left over of each size, of no words.
func TestP10LeftOver(t *testing.T) {
	text := holding(impl.BkText, 1, 'a')
	v := []int{ref(impl.VText, 0)}
	if got, to := impl.Slide(heapOf(text), v); !sameWords(got, heapOf(text)) || !slices.Equal(to, v) {
		t.Errorf("nothing left over: %v, %v", got, to)
	}
	for size := 2; size <= 40; size++ {
		full := holding(impl.BkFree, slices.Repeat([]int{16}, size-1)...)
		want := heapOf(text, room(size))
		for what, c := range map[string]struct {
			s    impl.Slab
			root int
		}{"ahead": {heapOf(full, text), ref(impl.VText, size)}, "behind": {heapOf(text, full), v[0]}} {
			if got, to := impl.Slide(c.s, []int{c.root}); !sameWords(got, want) || !slices.Equal(to, v) {
				t.Errorf("%d %s: %v, %v, not %v", size, what, got, to, want)
			}
			checkBoth(t, what, c.s, []int{c.root})
			checkBoth(t, what, c.s, nil)
		}
		for other := 2; other <= 6; other++ {
			s := heapOf(full, text, holding(impl.BkFree, make([]int, other-1)...), room(2))
			if got, _ := impl.Slide(s, nil); !sameWords(got, heapOf(text, room(size+other+2))) {
				t.Errorf("%d, %d and 2: %v", size, other, got)
			}
			checkBoth(t, "both", s, []int{ref(impl.VText, size)})
		}
		alone := heapOf(full)
		if got, to := impl.Slide(alone, []int{impl.VNull}); !sameWords(got, heapOf(room(size))) || !slices.Equal(to, []int{impl.VNull}) || len(impl.Forward(alone)) != 0 {
			t.Errorf("%d alone: %v, %v", size, got, to)
		}
		checkBoth(t, "alone", alone, nil)
		checkBoth(t, "two alone", heapOf(full, full), nil)
	}
	for _, s := range []impl.Slab{{}, {Words: []int{}}} {
		roots := []int{impl.VNull, impl.IntOf(0), impl.VUndef, impl.BoolOf(true)}
		checkBoth(t, "no words", s, roots)
		if got, to := impl.Slide(s, roots); len(got.Words) != 0 || !slices.Equal(to, roots) || len(impl.Forward(s)) != 0 {
			t.Errorf("no words: %v, %v", got, to)
		}
		if got, to := impl.Tidy(s, roots); len(got.Words) != 0 || !slices.Equal(to, roots) {
			t.Errorf("no words, tidied: %v, %v", got, to)
		}
		wantTakenBack(t, "no words", s, []int{ref(impl.VText, 0)})
	}
}

// Each size that a free block may have beside a text, ahead of it and behind it.
func TestP10EachSizeLeftOver(t *testing.T) {
	text := holding(impl.BkText, 1, 'a')
	for size := 2; size <= impl.MaxWords-3; size++ {
		want := heapOf(text, room(size))
		for at, s := range map[int]impl.Slab{size: heapOf(room(size), text), 0: want} {
			for _, f := range []func(impl.Slab, []int) (impl.Slab, []int){impl.Slide, impl.Tidy} {
				if got, to := f(s, []int{ref(impl.VText, at)}); !sameWords(got, want) || !slices.Equal(to, []int{ref(impl.VText, 0)}) {
					t.Fatalf("%d words, the text at %d: %v, %v", size, at, got, to)
				}
			}
		}
	}
}

// The greatest slabs: of one block, of as many as there may be, with the last words moved to the first ones.
func TestP10Most(t *testing.T) {
	text := holding(impl.BkText, 0)
	var other, most []body
	for i := range 500 {
		other = append(other, holding(impl.BkFree, i), text)
		most = append(most, text, text)
	}
	var roots, then []int
	for i := range 500 {
		roots, then = append(roots, ref(impl.VText, 4*i+2)), append(then, ref(impl.VText, 2*i))
	}
	want := heapOf(append(slices.Repeat([]body{text}, 500), room(1000))...)
	got, to := checkSlid(t, "every other one free", heapOf(other...), roots)
	if !sameWords(got, want) || !slices.Equal(to, then) {
		t.Errorf("every other one free: %v", to)
	}
	checkTidied(t, "every other one given", heapOf(most...), roots)
	checkBoth(t, "none free", heapOf(most...), []int{ref(impl.VText, 1998)})
	far := heapOf(room(1998), text)
	if got, to := impl.Slide(far, []int{ref(impl.VText, 1998)}); !sameWords(got, heapOf(text, room(1998))) || !slices.Equal(to, []int{ref(impl.VText, 0)}) {
		t.Errorf("from the last words to the first: %v", to)
	}
	checkBoth(t, "far", far, []int{ref(impl.VText, 1998)})
	wide := holding(impl.BkScope, make([]int, 1995)...)
	for i := range wide.words[1:] {
		wide.words[i+1] = ref(impl.VText, 1998)
	}
	checkBoth(t, "a wide scope", heapOf(room(2), wide, text), []int{ref(impl.VInner, 2), ref(impl.VText, 1998)})
	checkBoth(t, "the greatest free block", heapOf(room(2000)), nil)
	checkBoth(t, "the greatest scope", heapOf(holding(impl.BkScope, make([]int, 1999)...)), []int{ref(impl.VInner, 0)})
	odd := heapOf(room(1993), holding(impl.BkCell, ref(impl.VText, 1997), impl.VUndef, impl.VUndef), text)
	checkBoth(t, "1999 words", odd, []int{ref(impl.VText, 1997)})
	checkBoth(t, "1999 words, none", odd, nil)
}

// Long lines of blocks, each leading to the next one or to the one ahead.
func TestP10LongLines(t *testing.T) {
	const n = 200
	for what, next := range map[string]func(i int) int{"ahead": func(i int) int { return i - 1 }, "behind": func(i int) int { return i + 1 }, "round": func(i int) int { return (i + 1) % n }, "far": func(i int) int { return n - 1 - i }} {
		var p plan
		for i := range n {
			v := impl.VUndef
			if to := next(i); to >= 0 && to < n {
				v = ref(impl.VInner, to)
			}
			p.blocks = append(p.blocks, planned{impl.BkScope, nil, []int{v, impl.IntOf(i)}})
		}
		p.roots = []int{ref(impl.VInner, n/2), ref(impl.VInner, 0), ref(impl.VInner, n-1)}
		gaps := make([]int, n+1)
		for i := range gaps {
			if i%3 == 0 {
				gaps[i] = 2 + i%5
			}
		}
		checkSpread(t, what, p, gaps, make([]int, n))
		s, roots := p.spread(gaps, make([]int, n), 0)
		checkTidied(t, what, s, roots)
		checkTidied(t, what+", one", s, roots[:1])
	}
}

func TestP10Circles(t *testing.T) {
	for n := 1; n <= 4; n++ {
		for back := range n {
			for _, room := range []int{0, 4} {
				s, obj, names := circleOf(n, back, room)
				p := planOf(s, append([]int{obj}, names...))
				checkSpread(t, "cells", p, slices.Repeat([]int{2}, len(p.blocks)+1), make([]int, len(p.blocks)))
				checkBoth(t, "cells", s, []int{obj})
				checkBoth(t, "cells, a name", s, []int{names[n]})
				checkBoth(t, "cells, none", s, nil)
			}
			r := ring(n, back)
			p := planOf(r, append(scopesOf(r), functionsOf(r)...))
			checkSpread(t, "scopes", p, slices.Repeat([]int{3}, len(p.blocks)+1), make([]int, len(p.blocks)))
			for i := range n {
				checkBoth(t, "scopes", r, []int{ref(impl.VInner, 4*i)})
			}
		}
	}
	// Blocks that lead to themselves, and to each other, alone: they are slid, and tidied away.
	s := heapOf(room(2), holding(impl.BkObj, ref(impl.VObj, 2), impl.VUndef), holding(impl.BkScope, ref(impl.VInner, 5)), room(2), holding(impl.BkObj, ref(impl.VObj, 12), impl.VUndef), holding(impl.BkObj, ref(impl.VObj, 9), impl.VUndef))
	want := heapOf(holding(impl.BkObj, ref(impl.VObj, 0), impl.VUndef), holding(impl.BkScope, ref(impl.VInner, 3)), holding(impl.BkObj, ref(impl.VObj, 8), impl.VUndef), holding(impl.BkObj, ref(impl.VObj, 5), impl.VUndef), room(4))
	if got, _ := impl.Slide(s, nil); !sameWords(got, want) {
		t.Errorf("in circles: %v, not %v", got, want)
	}
	for _, roots := range [][]int{nil, {ref(impl.VObj, 2)}, {ref(impl.VInner, 5)}, {ref(impl.VObj, 9)}, {ref(impl.VObj, 12), ref(impl.VInner, 5)}} {
		checkBoth(t, "in circles", s, roots)
	}
}

func TestP10AnyHeap(t *testing.T) {
	rnd := &dice{1010}
	slides, parts, twice := 0, 0, 0
	for round := range 1000 {
		s := anyScopes(rnd)
		if round%2 == 0 {
			s = anyHeap(rnd)
		}
		roots := anyRoots(rnd, s)
		checkBoth(t, "any heap", s, roots)
		checkSlides(t, "any heap", s, append(somewhere(s), anyRoots(rnd, s)...), roots)
		if slid, _ := impl.Slide(s, roots); !sameWords(slid, s) {
			slides++
		}
		if impl.Waste(s, roots) > 0 && len(impl.Reach(s, roots)) > 1 {
			parts++
		}
		if len(impl.Blocks(s))-len(takenPlaces(s)) > 1 {
			twice++
		}
		if t.Failed() {
			return
		}
	}
	if slides < 300 || parts < 150 || twice < 150 {
		t.Errorf("%d slid, %d of which a part is tidied away, %d with several free blocks: too few to tell", slides, parts, twice)
	}
}

// Any heap with one word that is another one: it is told as it is, right or wrong.
func TestP10AnyWord(t *testing.T) {
	rnd := &dice{101010}
	right, wrong := 0, 0
	for round := range 3000 {
		s := anyScopes(rnd)
		if round%2 == 0 {
			s = anyHeap(rnd)
		}
		roots := anyRoots(rnd, s)
		s.Words[rnd.below(len(s.Words))] += rnd.below(17) - 8
		if sightOf(s).rootsOk(roots) {
			right++
		} else {
			wrong++
		}
		checkSlides(t, "any word", s, append(slices.Clone(roots), s.Words...), roots)
		if t.Failed() {
			return
		}
	}
	if right < 300 || wrong < 300 {
		t.Errorf("%d right, %d wrong: too few to tell", right, wrong)
	}
}

// The town as the functions of the other chapters make it: what is slid can be asked and added to as before.
func TestP10Made(t *testing.T) {
	for waste := range 5 {
		s, roots := madeTown(t, 220, []string{"two", "", "other", "one"}, waste)
		checkBoth(t, "made", s, roots)
		s, to := impl.Tidy(s, roots)
		if _, ok := impl.TextFind(s, "other"); ok {
			t.Errorf("waste %d: a text that can't be reached is found", waste)
		}
		code, hall, ok := impl.FunOf(s, to[0])
		if up, out := impl.ScopeAt(s, hall, 1); code != 42 || !ok || !out || up != to[2] || to[1] != impl.BoolOf(false) {
			t.Fatalf("waste %d: the function has %d, %d, %v", waste, code, hall, ok)
		}
		child, _ := impl.VarGet(s, to[2], 0, 0)
		if names := impl.Names(s, child); !slices.Equal(names, []string{"one", "two", ""}) {
			t.Errorf("waste %d: the names are %q", waste, names)
		}
		for i, name := range []string{"one", "two", ""} {
			v, _ := impl.TextFind(s, name)
			base, ok := impl.Own(s, child, v)
			if got, has := impl.Own(s, base, v); !ok || !has || got != impl.IntOf(i) {
				t.Errorf("waste %d: %q is %d, %v, %v", waste, name, got, ok, has)
			}
		}
		// All room is one block: it holds the longest text, and then cells behind it.
		at := len(s.Words) - impl.Room(s)
		s, v := mustText(t, s, strings.Repeat("l", impl.MaxText))
		if impl.Num(v) != at {
			t.Errorf("waste %d: put at %d, not at %d", waste, impl.Num(v), at)
		}
		s = mustSet(t, s, child, v, child)
		checkBoth(t, "added to", s, to)
	}
}

// Slid and tidied again and again while blocks are made: what is seen is the same as where nothing is slid.
func TestP10AgainAndAgain(t *testing.T) {
	rnd := &dice{100}
	for range 40 {
		still, _ := impl.SlabNew(impl.MaxWords)
		moving := still
		var stands, moves []int
		for step := range 40 {
			kind, i := rnd.below(4), rnd.below(len(stands)+1)
			still, stands = madeOne(still, stands, kind, i, step)
			moving, moves = madeOne(moving, moves, kind, i, step)
			if len(stands) > 6 {
				gone := rnd.below(len(stands))
				stands, moves = slices.Delete(stands, gone, gone+1), slices.Delete(moves, gone, gone+1)
			}
			switch rnd.below(4) {
			case 0:
				moving, moves = checkTidied(t, "again", moving, moves)
			case 1:
				moving, moves = checkSlid(t, "again", moving, moves)
			case 2:
				moving = impl.Collect(moving, moves)
			}
			if !impl.SameSight(still, stands, moving, moves) {
				t.Fatalf("step %d: not the same sight: %q, %q", step, impl.Picture(still, stands), impl.Picture(moving, moves))
			}
		}
	}
}

// madeOne makes one block more that has the value number i of those that are held, where it is of a kind that fits.
func madeOne(s impl.Slab, held []int, kind, i, step int) (impl.Slab, []int) {
	one := impl.VNull
	if i < len(held) {
		one = held[i]
	}
	var v int
	switch kind {
	case 0:
		s, v, _ = impl.TextPut(s, fmt.Sprint("t", step%9))
	case 1:
		var name int
		s, v, _ = impl.ObjNew(s, impl.VNull)
		s, _ = impl.ProtoSet(s, v, one)
		s, name, _ = impl.TextPut(s, "n")
		s, _ = impl.PropSet(s, v, name, one)
	case 2:
		up := impl.VUndef
		if impl.Kind(one) == impl.VInner {
			up = one
		}
		s, v, _ = impl.ScopeNew(s, up, 2)
		s, _ = impl.VarSet(s, v, 0, 1, one)
	case 3:
		if impl.Kind(one) != impl.VInner {
			s, one, _ = impl.ScopeNew(s, impl.VUndef, 0)
		}
		s, v, _ = impl.FunNew(s, step, one)
	}
	return s, append(slices.Clone(held), v)
}

// slidSlabs: slabs that are right and slabs that are not.
func slidSlabs() map[string]impl.Slab {
	slabs := wrongHeaps()
	slabs["whole"] = wholeHeap()
	slabs["no words, nil"] = impl.Slab{}
	slabs["no words, not nil"] = impl.Slab{Words: []int{}}
	slabs["ahead"] = heapOf(room(3), holding(impl.BkText, 1, 'a'), holding(impl.BkScope, impl.VUndef, ref(impl.VText, 3)), room(2), holding(impl.BkFun, 3, ref(impl.VInner, 6)))
	for name, s := range rightSlabs() {
		slabs["right, "+name] = s
	}
	for at, w := range map[int]int{atKey + 2: 256, atObj + 1: impl.VUndef, atFun + 1: 100, atScope + 9: ref(impl.VInner, atAlone), atChild + 3: 1, atFree: 16} {
		s := wholeHeap()
		s.Words[at] = w
		slabs[fmt.Sprintf("whole, wrong at %d", at)] = s
	}
	return slabs
}

// Each function at the ends of int and at slabs and roots of all sorts: it answers as told, nothing is written into what was handed in or behind it, and what is handed back may be written into.
func TestP21Slides(t *testing.T) {
	ends := []int{math.MinInt, math.MinInt + 1, math.MinInt + 4, math.MinInt + 7, -1, 0, 1, 2, ref(impl.VText, 0), ref(impl.VText, 3), ref(impl.VInner, 6), ref(impl.VInner, 1999), ref(impl.VInner, 2000), math.MaxInt - 3, math.MaxInt - 1, math.MaxInt}
	for name, s := range slidSlabs() {
		heap := sightOf(s).heap()
		for _, roots := range [][]int{nil, {}, {impl.VUndef}, {impl.IntOf(1), impl.VNull}, {ref(impl.VText, 0)}, {ref(impl.VText, 3), ref(impl.VFun, 11)}, goodRoots(), append(goodRoots(), goodRoots()...), append(goodRoots(), math.MinInt), {math.MinInt}, {math.MaxInt}, {math.MaxInt, impl.VNull, math.MinInt}} {
			u := handedIn(s, roots, impl.Marker{})
			// Twice: what one call has handed back is not what the next one hands back.
			for range 2 {
				checkSlides(t, name, u.s, ends, u.roots.Words)
				u.check(t, name, impl.Marker{})
				u.check(t, name+", Forward", impl.Marker{Grey: impl.Forward(u.s)})
				for _, f := range []func(impl.Slab, []int) (impl.Slab, []int){impl.Slide, impl.Tidy} {
					got, to := f(u.s, u.roots.Words)
					u.check(t, name+", slab and roots", impl.Marker{Grey: got.Words, Black: to})
					got, to = f(u.s, u.roots.Words)
					u.check(t, name+", roots and slab", impl.Marker{Grey: to, Black: got.Words})
				}
			}
			if !heap {
				wantTakenBack(t, name, s, roots)
			}
		}
		if heap {
			continue
		}
		if got := impl.Forward(s); len(got) != 0 {
			t.Errorf("%s: Forward is %v", name, got)
		}
		for _, v := range append(append(ends, edgeNumbers()...), anyValues()...) {
			if got := impl.Moved(s, v); got != v {
				t.Errorf("%s: %d is Moved to %d", name, v, got)
			}
		}
	}
}

// One answer goes into the next call, and stays as it was.
func TestP21SlidesShareNothing(t *testing.T) {
	s, roots := town().withUnreached().laid(shuffled(&dice{21}, 18), &dice{12})
	slid, to := impl.Slide(s, roots)
	keep, kept := slices.Clone(slid.Words), slices.Clone(to)
	for range 2 {
		for _, f := range []func(impl.Slab, []int) (impl.Slab, []int){impl.Slide, impl.Tidy} {
			again, then := f(slid, to)
			spoil(again)
			spoil(impl.Slab{Words: then})
		}
		spoil(impl.Slab{Words: impl.Forward(slid)})
	}
	if !slices.Equal(slid.Words, keep) || !slices.Equal(to, kept) {
		t.Errorf("%v, %v, not %v, %v", slid, to, keep, kept)
	}
	// A list of which a part was handed in: what lies behind it stays.
	all := append(slices.Clone(roots), 1, 2, 3)
	if _, got := impl.Slide(s, all[:len(roots)]); !slices.Equal(got, kept) || !slices.Equal(all[len(roots):], []int{1, 2, 3}) {
		t.Errorf("behind the roots: %v", all)
	}
}

// Roots far more than blocks.
func TestP21ManyRootsToSlide(t *testing.T) {
	const many = 100000
	s := heapOf(room(2), holding(impl.BkText, 0), room(2), holding(impl.BkScope, impl.VUndef))
	roots := slices.Repeat([]int{ref(impl.VInner, 6), impl.VNull}, many)
	if got, to := impl.Slide(s, roots); !sameWords(got, heapOf(holding(impl.BkText, 0), holding(impl.BkScope, impl.VUndef), room(4))) || !slices.Equal(to, slices.Repeat([]int{ref(impl.VInner, 2), impl.VNull}, many)) {
		t.Errorf("many roots: %v, %d", got, len(to))
	}
	if got, to := impl.Tidy(s, roots); !sameWords(got, heapOf(holding(impl.BkScope, impl.VUndef), room(6))) || !slices.Equal(to, slices.Repeat([]int{ref(impl.VInner, 0), impl.VNull}, many)) {
		t.Errorf("many roots, tidied: %v, %d", got, len(to))
	}
	wantTakenBack(t, "the last of many", s, append(slices.Clone(roots), ref(impl.VText, 0)))
	wantTakenBack(t, "a slab that is too long", impl.Slab{Words: make([]int, many)}, roots)
}

// Called by many at once with the same slab and roots: each is told the same, and nothing goes on when it has answered.
func TestP21SlidByManyAtOnce(t *testing.T) {
	before := runtime.NumGoroutine()
	s, roots := town().withUnreached().laid(shuffled(&dice{3}, 18), &dice{4})
	slid, to := impl.Slide(s, roots)
	tidied, then := impl.Tidy(s, roots)
	var all sync.WaitGroup
	for range 16 {
		all.Go(func() {
			for range 30 {
				if got, end := impl.Slide(s, roots); !sameWords(got, slid) || !slices.Equal(end, to) {
					t.Errorf("at once, Slide: %v, %v", got, end)
				}
				if got, end := impl.Tidy(s, roots); !sameWords(got, tidied) || !slices.Equal(end, then) {
					t.Errorf("at once, Tidy: %v, %v", got, end)
				}
			}
		})
	}
	all.Wait()
	wantNoMore(t, before)
}
