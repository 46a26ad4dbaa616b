package tests

import (
	"fmt"
	"math"
	"runtime"
	"slices"
	"sync"
	"testing"
	"time"

	"loop.example/g00242/impl"
)

// wantSwept: one step by the words of chapters 2 and 9: the slab then, and the place behind the block in which the place lies.
func wantSwept(s impl.Slab, black []int, at int) (impl.Slab, int) {
	places, sizes, kinds, _ := wantBlocks(s)
	i := slices.Index(places, at)
	first, end := at, at+sizes[i]
	if kinds[i] == impl.BkFree || slices.Contains(black, at) {
		return s, end
	}
	if i > 0 && kinds[i-1] == impl.BkFree {
		first = places[i-1]
	}
	if i+1 < len(places) && kinds[i+1] == impl.BkFree {
		end += sizes[i+1]
	}
	words := slices.Clone(s.Words[:first])
	words = append(words, 8*(end-first))
	words = append(words, make([]int, end-first-1)...)
	return impl.Slab{Words: append(words, s.Words[end:]...)}, end
}

func wantSweepStep(s impl.Slab, m impl.Marker, n int) (impl.Slab, impl.Marker) {
	next := markerClone(m)
	if !wantMarkerOk(s, m) {
		return impl.Slab{}, next
	}
	out := impl.Slab{Words: slices.Clone(s.Words)}
	if m.Phase != impl.PhSweep {
		return out, next
	}
	for ; n > 0 && next.At != len(s.Words); n-- {
		out, next.At = wantSwept(out, m.Black, next.At)
	}
	if next.At == len(s.Words) {
		next = impl.Marker{}
	}
	return out, next
}

func wantSweep(s impl.Slab, m impl.Marker) (impl.Slab, impl.Marker) {
	return wantSweepStep(s, wantMarkStep(s, m, 2000), 2000)
}

func wantWaste(s impl.Slab, roots []int) int {
	g, reached := sightOf(s), wantReach(s, roots)
	if !g.rootsOk(roots) {
		return 0
	}
	waste := 0
	for i, at := range g.places {
		if g.taken(at) && !slices.Contains(reached, at) {
			waste += g.sizes[i]
		}
	}
	return waste
}

// checkSweeps holds SweepStep by each number of steps, and Sweep, against what the chapter's words say.
func checkSweeps(t *testing.T, what string, s impl.Slab, m impl.Marker, steps ...int) {
	t.Helper()
	for _, n := range steps {
		got, next := impl.SweepStep(s, m, n)
		want, then := wantSweepStep(s, m, n)
		if !sameWords(got, want) || !sameMarker(next, then) {
			t.Errorf("%s: SweepStep of %v by %d is %v, %v, not %v, %v, of %v", what, m, n, got, next, want, then, s)
		}
	}
	got, next := impl.Sweep(s, m)
	want, then := wantSweep(s, m)
	if !sameWords(got, want) || !sameMarker(next, then) {
		t.Errorf("%s: Sweep of %v is %v, %v, not %v, %v, of %v", what, m, got, next, want, then, s)
	}
}

// wantTurn: so many steps come to that slab and that marker.
func wantTurn(t *testing.T, what string, s impl.Slab, m impl.Marker, n int, want impl.Slab, then impl.Marker) {
	t.Helper()
	if got, next := impl.SweepStep(s, m, n); !sameWords(got, want) || !sameMarker(next, then) {
		t.Errorf("%s: %d steps: %v, %v, not %v, %v", what, n, got, next, want, then)
	}
	checkSweeps(t, what, s, m, n)
}

// room: a free block of so many words, all else 0.
func room(size int) body { return holding(impl.BkFree, make([]int, size-1)...) }

// freeSideBySide tells whether two free blocks touch.
func freeSideBySide(s impl.Slab) bool {
	_, _, kinds, _ := wantBlocks(s)
	for i := range kinds {
		if i > 0 && kinds[i-1] == impl.BkFree && kinds[i] == impl.BkFree {
			return true
		}
	}
	return false
}

// staysAt: the block there is what it was, word for word.
func staysAt(s, got impl.Slab, at int) bool {
	size := impl.SizeAt(s, at)
	return size > 0 && at+size <= len(got.Words) && impl.KindAt(got, at) == impl.KindAt(s, at) && slices.Equal(got.Words[at:at+size], s.Words[at:at+size])
}

// checkKept: the promise itself: of a heap these blocks alone are left, each where it was, and all else is free.
func checkKept(t *testing.T, what string, s, got impl.Slab, kept []int) {
	t.Helper()
	if !impl.SlabOk(got) || len(got.Words) != len(s.Words) {
		t.Fatalf("%s: no slab: %v of %v", what, got, s)
	}
	words := 0
	for _, at := range kept {
		words += impl.SizeAt(s, at)
		if !staysAt(s, got, at) {
			t.Fatalf("%s: the block at %d did not stay: %v of %v", what, at, got, s)
		}
	}
	for _, at := range impl.Blocks(got) {
		if impl.KindAt(got, at) != impl.BkFree && !slices.Contains(kept, at) {
			t.Fatalf("%s: the block at %d was not given: %v of %v", what, at, got, s)
		}
	}
	if impl.Room(got) != len(s.Words)-words {
		t.Fatalf("%s: room is %d behind it, with %d words kept of %d", what, impl.Room(got), words, len(s.Words))
	}
	if freeSideBySide(got) && !freeSideBySide(s) {
		t.Fatalf("%s: free blocks lie side by side: %v of %v", what, got, s)
	}
}

// sweepOn sweeps to the end at a pace; each step is as told, and all that is black stays ahead of it and behind it.
func sweepOn(t *testing.T, what string, s impl.Slab, m impl.Marker, pace []int) impl.Slab {
	t.Helper()
	first, black := s, m.Black
	for i := 0; m.Phase == impl.PhSweep; i++ {
		if !impl.MarkerOk(s, m) || !impl.TriOk(s, m) || !wantMarkerOk(s, m) || !slices.Equal(m.Black, black) {
			t.Fatalf("%s: ahead of step %d: %v of %v", what, i, m, s)
		}
		n := pace[i%len(pace)]
		got, next := impl.SweepStep(s, m, n)
		want, then := wantSweepStep(s, m, n)
		if !sameWords(got, want) || !sameMarker(next, then) {
			t.Fatalf("%s: step %d of %d: %v, %v, not %v, %v, of %v, %v", what, i, n, got, next, want, then, s, m)
		}
		for _, at := range black {
			if !staysAt(first, got, at) {
				t.Fatalf("%s: step %d: the block at %d did not stay: %v of %v", what, i, at, got, first)
			}
		}
		if s, m = got, next; i > 5*(len(impl.Blocks(first))+2) {
			t.Fatalf("%s: no end: %v of %v", what, m, s)
		}
	}
	if !sameMarker(m, impl.Marker{}) {
		t.Fatalf("%s: at the end %v", what, m)
	}
	return s
}

// checkCollected: what Collect and Waste tell is what the promise says, and collected once more it is the same.
func checkCollected(t *testing.T, what string, s impl.Slab, roots []int) impl.Slab {
	t.Helper()
	got, reached := impl.Collect(s, roots), wantReach(s, roots)
	if !slices.Equal(impl.Reach(s, roots), reached) {
		t.Fatalf("%s: Reach from %v is not %v", what, roots, reached)
	}
	checkKept(t, what, s, got, reached)
	waste := impl.Waste(s, roots)
	if waste != wantWaste(s, roots) || impl.Room(got) != impl.Room(s)+waste {
		t.Fatalf("%s: waste from %v is %d, not %d; room is %d and %d behind it, of %v", what, roots, waste, wantWaste(s, roots), impl.Room(s), impl.Room(got), s)
	}
	if !impl.SameSight(s, roots, got, roots) || !slices.Equal(impl.Reach(got, roots), reached) || impl.Waste(got, roots) != 0 {
		t.Fatalf("%s: from %v another sight: %v of %v", what, roots, got, s)
	}
	if again := impl.Collect(got, roots); !sameWords(again, got) {
		t.Fatalf("%s: collected again: %v, not %v", what, again, got)
	}
	return got
}

// checkSweptOut: marked at each pace and swept at each pace it comes to the same slab, which is what Sweep and Collect tell.
func checkSweptOut(t *testing.T, what string, s impl.Slab, roots []int) {
	t.Helper()
	want := checkCollected(t, what, s, roots)
	start := impl.Start(s, roots)
	if got, m := impl.Sweep(s, start); !sameWords(got, want) || !sameMarker(m, impl.Marker{}) {
		t.Fatalf("%s: Sweep of the start by %v is %v, %v, not %v", what, roots, got, m, want)
	}
	marked := impl.MarkStep(s, start, impl.MaxWords)
	for name, pace := range paces() {
		if m := markOn(t, what+", marked by "+name, s, start, pace); !sameMarker(m, marked) {
			t.Fatalf("%s: marked by %s: %v, not %v", what, name, m, marked)
		}
		if got := sweepOn(t, what+", swept by "+name, s, marked, pace); !sameWords(got, want) {
			t.Fatalf("%s: from %v, swept by %s: %v, not %v, of %v", what, roots, name, got, want, s)
		}
	}
}

// sweptStates: how wholeHeap is swept from its object on, step by step: the slab and how far it is.
func sweptStates() ([]impl.Slab, []int) {
	s := wholeHeap()
	upTo := func(end int, bodies ...body) impl.Slab {
		return impl.Slab{Words: append(slices.Clone(s.Words[:end]), heapOf(bodies...).Words...)}
	}
	// The text of odd bytes is gone; what lies behind the cells is as it was.
	gone := upTo(atBytes, room(6))
	gone.Words = append(gone.Words, s.Words[atObj:]...)
	s = gone
	far, alone := holding(impl.BkFun, s.Words[atFar+1:atAlone]...), holding(impl.BkScope, s.Words[atAlone+1:atScope]...)
	scope, free := holding(impl.BkScope, s.Words[atScope+1:atFree]...), holding(impl.BkFree, s.Words[atFree+1:atEnd]...)
	slabs := []impl.Slab{wholeHeap(), wholeHeap(), wholeHeap(), gone, gone, gone, gone, gone,
		upTo(atFun, room(3), far, alone, scope, free), upTo(atFun, room(7), alone, scope, free), upTo(atFun, room(9), scope, free), upTo(atFun, room(22))}
	return slabs, []int{atKey, atEmpty, atBytes, atObj, atChild, atCell, atNext, atFun, atFar, atAlone, atScope, atEnd}
}

// Each state word for word, from each state by each number of steps.
func TestP9WordForWord(t *testing.T) {
	slabs, places := sweptStates()
	last := len(slabs) - 1
	stateOf := func(i int) impl.Marker {
		if i == last {
			return impl.Marker{}
		}
		return sweeping(places[i], reachedObj()...)
	}
	m := impl.MarkStep(slabs[0], impl.Start(slabs[0], []int{ref(impl.VObj, atObj)}), impl.MaxWords)
	if !sameMarker(m, stateOf(0)) {
		t.Fatalf("marked: %v", m)
	}
	for i := range slabs {
		for n := range len(slabs) + 3 {
			end := min(i+n, last)
			wantTurn(t, fmt.Sprintf("state %d", i), slabs[i], stateOf(i), n, slabs[end], stateOf(end))
		}
		for _, n := range []int{impl.MaxWords, math.MaxInt} {
			wantTurn(t, fmt.Sprintf("state %d", i), slabs[i], stateOf(i), n, slabs[last], impl.Marker{})
		}
		for _, n := range []int{-1, -2, math.MinInt} {
			wantTurn(t, fmt.Sprintf("state %d", i), slabs[i], stateOf(i), n, slabs[i], stateOf(i))
		}
	}
	checkSweptOut(t, "whole", wholeHeap(), []int{ref(impl.VObj, atObj)})
	checkSweptOut(t, "whole, no roots", wholeHeap(), nil)
	checkSweptOut(t, "whole, all", wholeHeap(), goodRoots())
}

// Where it goes on behind one step: behind all that the block is one with then.
func TestP9WhereItGoesOn(t *testing.T) {
	a, b, c, d := holding(impl.BkText, 1, 'a'), holding(impl.BkText, 2, 'b', 'c'), holding(impl.BkScope, impl.VUndef), holding(impl.BkText, 0)
	full := holding(impl.BkFree, math.MinInt, 5, 16)
	for what, x := range map[string]struct {
		s     impl.Slab
		at    int
		black []int
		want  impl.Slab
		then  int
	}{
		"none free about it":                        {heapOf(a, b, c), 3, []int{0, 7}, heapOf(a, room(4), c), 7},
		"none, others behind it not black":          {heapOf(a, b, c), 3, []int{0}, heapOf(a, room(4), c), 7},
		"a free one ahead":                          {heapOf(d, full, b, c), 6, []int{0, 10}, heapOf(d, room(8), c), 10},
		"a free one ahead, the first":               {heapOf(full, b, c), 4, []int{8}, heapOf(room(8), c), 8},
		"a free one behind":                         {heapOf(a, b, full, c), 3, []int{0, 11}, heapOf(a, room(8), c), 11},
		"a free one behind, the last":               {heapOf(a, b, full), 3, []int{0}, heapOf(a, room(8)), 11},
		"free on both sides":                        {heapOf(a, full, b, full, c), 7, []int{0, 15}, heapOf(a, room(12), c), 15},
		"free on both sides, all there is":          {heapOf(full, b, full), 4, nil, heapOf(room(12)), 12},
		"the first block":                           {heapOf(b, c, a), 0, []int{4}, heapOf(room(4), c, a), 4},
		"the first block, a free one behind":        {heapOf(b, full, a), 0, []int{8}, heapOf(room(8), a), 8},
		"the last block":                            {heapOf(a, b), 3, []int{0}, heapOf(a, room(4)), 7},
		"the last block, a free one ahead":          {heapOf(a, full, b), 7, []int{0}, heapOf(a, room(8)), 11},
		"the only block":                            {heapOf(b), 0, nil, heapOf(room(4)), 4},
		"the least block":                           {heapOf(a, d, a), 3, []int{0}, heapOf(a, room(2), a), 5},
		"a free one at At":                          {heapOf(a, full, b), 3, []int{0}, heapOf(a, full, b), 7},
		"a free one at At, the first":               {heapOf(full, b), 0, nil, heapOf(full, b), 4},
		"a free one at At, the last":                {heapOf(a, full), 3, []int{0}, heapOf(a, full), 7},
		"a free one at At, one ahead":               {heapOf(full, full, b), 4, nil, heapOf(full, full, b), 8},
		"a free one at At, one behind":              {heapOf(a, full, full, b), 3, []int{0}, heapOf(a, full, full, b), 7},
		"a black one at At":                         {heapOf(a, b, c), 3, []int{0, 3}, heapOf(a, b, c), 7},
		"a black one at At, the first":              {heapOf(b, c), 0, []int{0}, heapOf(b, c), 4},
		"a black one at At, the last":               {heapOf(a, b), 3, []int{0, 3}, heapOf(a, b), 7},
		"a black one at At, free on both sides":     {heapOf(full, b, full, a), 4, []int{4}, heapOf(full, b, full, a), 8},
		"two free ones ahead: the one that touches": {heapOf(full, full, b, c), 8, []int{12}, heapOf(full, room(8), c), 12},
		"two behind: the one that touches":          {heapOf(a, b, full, full, c), 3, []int{0}, heapOf(a, room(8), full, c), 11},
		"a free one ahead of a black one":           {heapOf(full, a, b, c), 7, []int{4}, heapOf(full, a, room(4), c), 11},
		"a free one behind one that is not black":   {heapOf(a, b, c, full), 3, []int{0}, heapOf(a, room(4), c, full), 7},
		"the greatest block":                        {heapOf(holding(impl.BkScope, make([]int, 1999)...)), 0, nil, heapOf(room(2000)), 2000},
		"the greatest behind a least one":           {heapOf(d, holding(impl.BkScope, make([]int, 1997)...)), 2, []int{0}, heapOf(d, room(1998)), 2000},
	} {
		m := sweeping(x.at, x.black...)
		if !impl.MarkerOk(x.s, m) {
			t.Fatalf("%s: no marker: %v of %v", what, m, x.s)
		}
		then := sweeping(x.then, x.black...)
		if x.then == len(x.s.Words) {
			then = impl.Marker{}
		}
		wantTurn(t, what, x.s, m, 1, x.want, then)
		checkSweeps(t, what, x.s, m, math.MinInt, -1, 0, 2, 3, 4, 5, 2000, math.MaxInt)
		sweepOn(t, what, x.s, m, []int{1})
	}
}

// Blocks in a row that are given one by one: each is one with what was given a step before, and it goes on behind itself.
func TestP9GivenInARow(t *testing.T) {
	for n := 1; n <= 6; n++ {
		for _, ahead := range [][]body{nil, {holding(impl.BkText, 0)}, {holding(impl.BkFree, 7, 7)}} {
			for _, behind := range [][]body{nil, {holding(impl.BkScope, impl.VUndef)}, {holding(impl.BkFree, 9)}, {holding(impl.BkFree, 9), holding(impl.BkScope, impl.VUndef)}} {
				checkRow(t, n, ahead, behind)
			}
		}
	}
}

// checkRow: n texts of 3 words between blocks that are free or black.
func checkRow(t *testing.T, n int, ahead, behind []body) {
	t.Helper()
	row := slices.Repeat([]body{holding(impl.BkText, 1, 'x')}, n)
	s := heapOf(append(append(slices.Clone(ahead), row...), behind...)...)
	first := len(heapOf(ahead...).Words)
	end := first + 3*n
	var black []int
	for _, at := range impl.Blocks(s) {
		if impl.KindAt(s, at) != impl.BkFree && (at < first || at >= end) {
			black = append(black, at)
		}
	}
	from := first
	if first > 0 && impl.KindAt(s, 0) == impl.BkFree {
		from = 0
	}
	what, m := fmt.Sprintf("%d given of %v", n, s), sweeping(first, black...)
	for i := 1; i <= n; i++ {
		to := first + 3*i
		if i == n && len(behind) > 0 && behind[0].kind == impl.BkFree {
			to += 2
		}
		want := impl.Slab{Words: append(append(slices.Clone(s.Words[:from]), heapOf(room(to-from)).Words...), s.Words[to:]...)}
		then := sweeping(to, black...)
		if to == len(s.Words) {
			then = impl.Marker{}
		}
		wantTurn(t, what, s, m, i, want, then)
		got, next := s, m
		for range i {
			got, next = impl.SweepStep(got, next, 1)
		}
		if !sameWords(got, want) || !sameMarker(next, then) {
			t.Errorf("%s: one by one: %v, %v, not %v, %v", what, got, next, want, then)
		}
	}
}

// Steps of 0 and below, and steps behind the end: At at the end turns to rest, however few steps are made; elsewhere it needs the steps.
func TestP9StepsAtTheEnd(t *testing.T) {
	s := heapOf(holding(impl.BkText, 0), holding(impl.BkText, 1, 'a'), room(4))
	none := []int{math.MinInt, math.MinInt + 1, -2000, -1, 0}
	some := []int{1, 2, 3, 1999, 2000, 2001, math.MaxInt - 1, math.MaxInt}
	for _, n := range append(slices.Clone(none), some...) {
		wantTurn(t, "at the end", s, sweeping(9, 0, 2), n, s, impl.Marker{})
		wantTurn(t, "at rest", s, impl.Marker{}, n, s, impl.Marker{})
		wantTurn(t, "no words", impl.Slab{}, sweeping(0), n, impl.Slab{}, impl.Marker{})
		wantTurn(t, "no words, at rest", impl.Slab{}, impl.Marker{}, n, impl.Slab{}, impl.Marker{})
		wantTurn(t, "marking", s, marking([]int{2}, []int{0}), n, s, marking([]int{2}, []int{0}))
		wantTurn(t, "marking, Grey empty", s, marking(nil, []int{2}), n, s, marking(nil, []int{2}))
	}
	for _, n := range none {
		for _, at := range []int{0, 2, 5} {
			wantTurn(t, "not at the end", s, sweeping(at, 0, 2), n, s, sweeping(at, 0, 2))
		}
		wantTurn(t, "nothing black", s, sweeping(0), n, s, sweeping(0))
	}
	for _, n := range some {
		wantTurn(t, "the step that comes to the end", s, sweeping(5, 0, 2), n, s, impl.Marker{})
		wantTurn(t, "one that is given comes to the end", s, sweeping(2, 0), n, heapOf(holding(impl.BkText, 0), room(7)), impl.Marker{})
	}
	wantTurn(t, "one ahead of the end", s, sweeping(2, 0, 2), 1, s, sweeping(5, 0, 2))
	wantTurn(t, "both steps", s, sweeping(2, 0, 2), 2, s, impl.Marker{})
	// One more step behind the end is one of a marker at rest.
	got, m := impl.SweepStep(s, sweeping(2, 0), 1)
	for _, n := range append(none, some...) {
		wantTurn(t, "behind the end", got, m, n, got, impl.Marker{})
	}
}

// The town of chapter 7, laid in any order, with blocks that can't be reached, from all of its roots and from each one that there might be.
func TestP9Town(t *testing.T) {
	rnd := &dice{9}
	for round := range 8 {
		p := town()
		if round%2 == 1 {
			p = p.withUnreached()
		}
		s, roots := p.laid(shuffled(rnd, len(p.blocks)), rnd)
		checkSweptOut(t, "town", s, roots)
		all := append(append(scopesOf(s), functionsOf(s)...), objectsOf(s)...)
		for _, v := range append(all, namesOf(s)...) {
			checkSweptOut(t, "part", s, []int{v})
		}
		checkSweptOut(t, "nothing", s, nil)
	}
}

// The town as the functions of the other chapters make it, with texts that can't be reached: what is collected can be made use of.
func TestP9Made(t *testing.T) {
	for waste := range 5 {
		s, roots := madeTown(t, 220, []string{"two", "", "other", "one"}, waste)
		checkSweptOut(t, "made", s, roots)
		got := impl.Collect(s, roots)
		if _, ok := impl.TextFind(got, "other"); ok {
			t.Errorf("waste %d: a text that can't be reached is found", waste)
		}
		for _, name := range []string{"one", "two", ""} {
			v, ok := impl.TextFind(got, name)
			if !ok {
				t.Fatalf("waste %d: %q is not found", waste, name)
			}
			child, _ := impl.VarGet(got, roots[2], 0, 0)
			if _, ok := impl.Own(got, child, v); !ok {
				t.Errorf("waste %d: %q is not had", waste, name)
			}
		}
		full, _, ok := impl.Take(got, impl.BkScope, 2)
		for ; ok; full, _, ok = impl.Take(full, impl.BkScope, 2) {
			got = full
		}
		checkSweptOut(t, "filled", got, roots)
		if impl.Room(got) != 0 || !impl.SameSight(s, roots, got, roots) {
			t.Errorf("waste %d: filled again it looks otherwise: %v", waste, got)
		}
	}
}

func TestP9Circles(t *testing.T) {
	for n := 1; n <= 4; n++ {
		for back := range n {
			s, obj, names := circleOf(n, back, 4)
			checkSweptOut(t, "cells", s, []int{obj})
			checkSweptOut(t, "cells, a name", s, []int{names[n]})
			checkSweptOut(t, "cells, none", s, nil)
			r := ring(n, back)
			for i := range n {
				checkSweptOut(t, "scopes", r, []int{ref(impl.VInner, 4*i)})
			}
			checkSweptOut(t, "scopes, the text", r, namesOf(r))
		}
	}
	self := heapOf(holding(impl.BkObj, ref(impl.VObj, 0), impl.VUndef), holding(impl.BkScope, ref(impl.VInner, 3)), holding(impl.BkObj, ref(impl.VObj, 0), impl.VUndef))
	checkSweptOut(t, "its own prototype", self, []int{ref(impl.VObj, 0)})
	checkSweptOut(t, "within itself", self, []int{ref(impl.VInner, 3)})
	if got := impl.Collect(self, nil); !sameWords(got, heapOf(room(8))) {
		t.Errorf("blocks that lead to themselves alone: %v", got)
	}
}

func TestP9AnyHeap(t *testing.T) {
	rnd := &dice{99}
	parts, joined := 0, 0
	for round := range 300 {
		s := anyScopes(rnd)
		if round%2 == 0 {
			s = anyHeap(rnd)
		}
		roots := anyRoots(rnd, s)
		checkSweptOut(t, "any heap", s, roots)
		if n := len(impl.Reach(s, roots)); n > 1 && n < len(impl.Blocks(s))-1 {
			parts++
		}
		if got := impl.Collect(s, roots); len(impl.Blocks(got)) < len(impl.Blocks(s))-2 {
			joined++
		}
	}
	if parts < 70 || joined < 70 {
		t.Errorf("%d heaps of which a part is reached, %d in which blocks became one: too few to tell", parts, joined)
	}
}

// The greatest slabs, of as many blocks as there may be: all given, none, every other one.
func TestP9Most(t *testing.T) {
	every, other := heapOf(slices.Repeat([]body{holding(impl.BkText, 0)}, 1000)...), []int{}
	for i := range 500 {
		other = append(other, ref(impl.VText, 4*i))
	}
	all := append(slices.Clone(other), other...)
	for i := range 500 {
		all[500+i] = ref(impl.VText, 4*i+2)
	}
	for what, c := range map[string]struct {
		roots []int
		steps int
		left  int
	}{
		"all given": {nil, 1000, 1}, "every other one": {other, 1000, 1000}, "none given": {all, 1000, 1000}, "the last alone": {[]int{ref(impl.VText, 1998)}, 1000, 2}, "the first alone": {[]int{ref(impl.VText, 0)}, 1000, 2},
	} {
		want := checkCollected(t, what, every, c.roots)
		if n := len(impl.Blocks(want)); n != c.left {
			t.Errorf("%s: %d blocks are left", what, n)
		}
		m := impl.MarkStep(every, impl.Start(every, c.roots), impl.MaxWords)
		wantTurn(t, what+", to the end", every, m, c.steps, want, impl.Marker{})
		if _, next := impl.SweepStep(every, m, c.steps-1); next.Phase != impl.PhSweep || next.At != 1998 {
			t.Errorf("%s: one step ahead of the end: phase %d, at %d", what, next.Phase, next.At)
		}
		got := every
		for m.Phase == impl.PhSweep {
			got, m = impl.SweepStep(got, m, 37)
		}
		if !sameWords(got, want) {
			t.Errorf("%s: by 37 steps it comes to another end", what)
		}
	}
}

// What was not met may be anything: it is given all the same, and nothing of it is followed.
func TestP9SweepsAnything(t *testing.T) {
	want, m := impl.SweepStep(wholeHeap(), sweeping(0, reachedObj()...), impl.MaxWords)
	if m.Phase != impl.PhRest {
		t.Fatalf("not swept: %v", m)
	}
	for _, at := range []int{atBytes, atFun, atFar, atAlone, atScope} {
		for i := 1; i < impl.SizeAt(wholeHeap(), at); i++ {
			for _, w := range []int{math.MinInt, -1, 8, 16, 256, ref(impl.VText, atKey), ref(impl.VText, atFree), ref(impl.VInner, atCell), ref(impl.VObj, 2000), math.MaxInt} {
				s := wholeHeap()
				s.Words[at+i] = w
				what := fmt.Sprintf("%d at %d", w, at+i)
				wantTurn(t, what, s, sweeping(0, reachedObj()...), impl.MaxWords, want, impl.Marker{})
				if got := sweepOn(t, what, s, sweeping(0, reachedObj()...), []int{1}); !sameWords(got, want) {
					t.Errorf("%s: %v", what, got)
				}
			}
		}
	}
	// Blocks too short for what they hold; values that lead to what was given a step before.
	short := heapOf(holding(impl.BkText, 0), holding(impl.BkObj, 0), holding(impl.BkCell, 5), holding(impl.BkFun, -1), holding(impl.BkScope, 9))
	wantTurn(t, "short ones", short, sweeping(0, 0), impl.MaxWords, heapOf(holding(impl.BkText, 0), room(8)), impl.Marker{})
	late := heapOf(holding(impl.BkText, 0), holding(impl.BkText, 0), holding(impl.BkScope, impl.VUndef, ref(impl.VText, 0)), holding(impl.BkText, 0))
	got, next := impl.SweepStep(late, sweeping(0, 2, 7), 1)
	if impl.HeapOk(got) || !impl.MarkerOk(got, next) {
		t.Errorf("halfway: %v, %v", got, next)
	}
	wantTurn(t, "halfway", got, next, 2, heapOf(room(2), holding(impl.BkText, 0), room(3), holding(impl.BkText, 0)), sweeping(7, 2, 7))
}

// A free block keeps what stands in it where nothing that touches it is given, and nothing where something is.
func TestP9WordsOfFreeBlocks(t *testing.T) {
	full, text := holding(impl.BkFree, 7, math.MaxInt), holding(impl.BkText, 0)
	s := heapOf(full, text, full, text, full)
	for what, c := range map[string]struct {
		roots []int
		want  impl.Slab
	}{
		"both stay":   {[]int{ref(impl.VText, 3), ref(impl.VText, 8)}, s},
		"one stays":   {[]int{ref(impl.VText, 3)}, heapOf(full, text, room(8))},
		"other stays": {[]int{ref(impl.VText, 8)}, heapOf(room(8), text, full)},
		"none stays":  {nil, heapOf(room(13))},
	} {
		if got := impl.Collect(s, c.roots); !sameWords(got, c.want) {
			t.Errorf("%s: %v, not %v", what, got, c.want)
		}
		checkSweptOut(t, what, s, c.roots)
	}
}

// newText takes a text of no bytes in a block of n words and, where it is to stay, says so.
func newText(t *testing.T, s impl.Slab, m impl.Marker, n, at int, stays bool) (impl.Slab, impl.Marker) {
	t.Helper()
	with, got, ok := impl.Take(s, impl.BkText, n)
	if !ok || got != at {
		t.Fatalf("no block of %d words at %d but at %d, of %v, %v", n, at, got, s, m)
	}
	if stays {
		m = impl.Fresh(m, at)
	}
	return with, m
}

// Blocks that are taken while it sweeps, ahead of At, at it and behind it: those that are Fresh stay.
func TestP9TakenWhileSweeping(t *testing.T) {
	a, b, c := holding(impl.BkText, 1, 'a'), holding(impl.BkText, 1, 'b'), holding(impl.BkText, 1, 'c')
	fresh := func(n int) body { return holding(impl.BkText, make([]int, n-1)...) }
	s := heapOf(room(4), a, room(4), b, c, room(6))
	s, m := impl.SweepStep(s, sweeping(0, 11), 2)
	if !sameWords(s, heapOf(room(11), b, c, room(6))) || !sameMarker(m, sweeping(11, 11)) {
		t.Fatalf("two steps: %v, %v", s, m)
	}
	// Ahead of At: with a rest behind it, and all that is left.
	s, m = newText(t, s, m, 3, 0, true)
	s, m = newText(t, s, m, 7, 3, true)
	// Behind At, where it has not come to yet.
	s, m = newText(t, s, m, 4, 17, true)
	if !sameMarker(m, sweeping(11, 0, 3, 11, 17)) || !sameWords(s, heapOf(fresh(3), fresh(8), b, c, fresh(4), room(2))) {
		t.Fatalf("taken: %v, %v", s, m)
	}
	want := heapOf(fresh(3), fresh(8), b, room(3), fresh(4), room(2))
	wantTurn(t, "one step", s, m, 1, s, sweeping(14, 0, 3, 11, 17))
	wantTurn(t, "two steps", s, m, 2, want, sweeping(17, 0, 3, 11, 17))
	wantTurn(t, "all steps", s, m, 5, want, impl.Marker{})
	// At it: what was free is fresh there, and so is what was given just now.
	s, m = heapOf(b, room(4), c, c), sweeping(3, 0)
	s, m = newText(t, s, m, 2, 3, true)
	wantTurn(t, "at it", s, m, 3, heapOf(b, fresh(2), room(5), c), sweeping(10, 0, 3))
	s, m = impl.SweepStep(s, m, 3)
	s, m = newText(t, s, m, 5, 5, true)
	wantTurn(t, "where it was given", s, m, impl.MaxWords, heapOf(b, fresh(2), fresh(5), room(3)), impl.Marker{})
	// Whoever does not say so is given behind At; ahead of At that is no marker any more.
	s, m = newText(t, heapOf(b, room(4), c), sweeping(3, 0), 2, 3, false)
	wantTurn(t, "not said, behind At", s, m, impl.MaxWords, heapOf(b, room(7)), impl.Marker{})
	s, m = newText(t, heapOf(b, room(4), c), sweeping(7, 0), 2, 3, false)
	wantTurn(t, "not said, ahead of At", s, m, impl.MaxWords, impl.Slab{}, m)
}

// Blocks that are taken while it marks stay though none leads to them, and so does what is shaded on the way; what neither was is given.
func TestP9TakenWhileMarking(t *testing.T) {
	text, free := holding(impl.BkText, 0), room(4)
	s := heapOf(free, text, free, text, holding(impl.BkScope, impl.VUndef, ref(impl.VText, 10)), text, free)
	scope := ref(impl.VInner, 12)
	for first := range 4 {
		w, m := s, impl.MarkStep(s, impl.Start(s, []int{scope}), first)
		var then impl.Marker
		if m.Phase == impl.PhMark {
			w, m = newText(t, w, m, 4, 0, true)
			w, m = newText(t, w, m, 2, 6, true)
			m = impl.Shade(w, m, ref(impl.VText, 15))
			m = impl.Shade(w, m, impl.VNull)
			if !impl.TriOk(w, m) {
				t.Fatalf("%d steps: %v", first, m)
			}
			then = impl.MarkStep(w, m, impl.MaxWords)
			if !sameMarker(then, sweeping(0, 0, 6, 10, 12, 15)) {
				t.Fatalf("%d steps: %v", first, then)
			}
			want := heapOf(holding(impl.BkText, 0, 0, 0), room(2), text, room(2), text, holding(impl.BkScope, impl.VUndef, ref(impl.VText, 10)), text, free)
			if got, end := impl.Sweep(w, m); !sameWords(got, want) || !sameMarker(end, impl.Marker{}) {
				t.Errorf("%d steps: %v, %v, not %v", first, got, end, want)
			}
			continue
		}
		// While it sweeps Shade turns nothing: the text is given.
		if got := impl.Shade(w, m, ref(impl.VText, 15)); !sameMarker(got, m) {
			t.Errorf("shaded while it sweeps: %v", got)
		}
		want := heapOf(room(10), text, holding(impl.BkScope, impl.VUndef, ref(impl.VText, 10)), room(6))
		if got, end := impl.Sweep(w, impl.Shade(w, m, ref(impl.VText, 15))); !sameWords(got, want) || !sameMarker(end, impl.Marker{}) {
			t.Errorf("%d steps: %v, %v, not %v", first, got, end, want)
		}
	}
}

// sweptWriter: somebody who takes blocks and writes while it sweeps; how many were taken ahead of At and how many behind it.
type sweptWriter struct {
	s             impl.Slab
	m             impl.Marker
	ahead, behind int
}

// value: one that leads to a block that was met, or to none.
func (w *sweptWriter) value(rnd *dice) int {
	if len(w.m.Black) == 0 || rnd.below(3) == 0 {
		return impl.IntOf(rnd.below(9))
	}
	at := w.m.Black[rnd.below(len(w.m.Black))]
	switch impl.KindAt(w.s, at) {
	case impl.BkText:
		return ref(impl.VText, at)
	case impl.BkObj:
		return ref(impl.VObj, at)
	case impl.BkFun:
		return ref(impl.VFun, at)
	}
	return impl.VNull
}

func (w *sweptWriter) write(rnd *dice) {
	body := holding(impl.BkScope, impl.VUndef, w.value(rnd), w.value(rnd))
	if rnd.below(2) == 0 {
		body = holding(impl.BkObj, impl.VNull, impl.VUndef)
	}
	with, at, ok := impl.Take(w.s, body.kind, len(body.words)+1)
	if !ok {
		return
	}
	copy(with.Words[at+1:], body.words)
	if at < w.m.At {
		w.ahead++
	} else {
		w.behind++
	}
	w.s, w.m = with, impl.Fresh(w.m, at)
	for _, v := range body.words {
		w.m = impl.Shade(w.s, w.m, v)
	}
}

// The promise while others write: while it marks and while it sweeps, at any pace: all that is black at the end stays, that is all that can be reached and all that was made on the way.
func TestP9WrittenBetween(t *testing.T) {
	rnd := &dice{90}
	ahead, behind, given := 0, 0, 0
	for round := range 250 {
		s := anyScopes(rnd)
		s.Words = append(s.Words, heapOf(room(6+rnd.below(40))).Words...)
		roots := anyRoots(rnd, s)
		marker := &writer{s, impl.Start(s, roots), roots}
		for step := 0; marker.m.Phase == impl.PhMark; step++ {
			marker.write(rnd)
			marker.m = impl.MarkStep(marker.s, marker.m, 1+step/20)
		}
		w := &sweptWriter{s: marker.s, m: marker.m}
		for step := 0; w.m.Phase == impl.PhSweep; step++ {
			w.write(rnd)
			if !impl.MarkerOk(w.s, w.m) || !wantMarkerOk(w.s, w.m) {
				t.Fatalf("round %d, step %d: written: %v of %v", round, step, w.m, w.s)
			}
			checkSweeps(t, "written", w.s, w.m, 1, 2)
			before, black := w.s, w.m.Black
			w.s, w.m = impl.SweepStep(before, w.m, rnd.below(3))
			for _, at := range black {
				if !staysAt(before, w.s, at) {
					t.Fatalf("round %d, step %d: %d did not stay: %v of %v", round, step, at, w.s, before)
				}
			}
			if w.m.Phase == impl.PhRest {
				checkKept(t, "written", before, w.s, black)
			}
		}
		if !impl.RootsOk(w.s, roots) || t.Failed() {
			t.Fatalf("round %d: at the end %v by %v", round, w.s, roots)
		}
		ahead, behind = ahead+w.ahead, behind+w.behind
		for _, at := range impl.Blocks(marker.s) {
			if impl.KindAt(marker.s, at) != impl.BkFree && !slices.Contains(marker.m.Black, at) {
				given++
			}
		}
	}
	if ahead < 200 || behind < 200 || given < 200 {
		t.Errorf("%d taken ahead of At, %d behind it, %d given: too few to tell", ahead, behind, given)
	}
}

// Sweep in each phase.
func TestP9SweepOfEachPhase(t *testing.T) {
	s := wholeHeap()
	obj := []int{ref(impl.VObj, atObj)}
	want := impl.Collect(s, obj)
	slabs, places := sweptStates()
	swept := func(what string, s impl.Slab, m impl.Marker, want impl.Slab, then impl.Marker) {
		t.Helper()
		if got, next := impl.Sweep(s, m); !sameWords(got, want) || !sameMarker(next, then) {
			t.Errorf("%s: %v, %v, not %v, %v", what, got, next, want, then)
		}
		checkSweeps(t, what, s, m)
	}
	swept("at rest", s, impl.Marker{}, s, impl.Marker{})
	swept("at rest, lists of no length", s, impl.Marker{Grey: []int{}, Black: []int{}}, s, impl.Marker{})
	start := impl.Start(s, obj)
	for n := range 8 {
		swept(fmt.Sprintf("marked by %d", n), s, impl.MarkStep(s, start, n), want, impl.Marker{})
	}
	for i, at := range places {
		swept(fmt.Sprintf("swept to %d", at), slabs[i], sweeping(at, reachedObj()...), want, impl.Marker{})
	}
	swept("marking, Grey empty", s, marking(nil, reachedObj()), want, impl.Marker{})
	swept("marking, nothing met", s, marking(nil, nil), heapOf(room(atEnd)), impl.Marker{})
	swept("sweeping, nothing met", s, sweeping(0), heapOf(room(atEnd)), impl.Marker{})
	all := impl.Reach(s, []int{ref(impl.VFun, atFar)})
	swept("all black, from the start", s, sweeping(0, all...), s, impl.Marker{})
	swept("all black, from the middle", s, sweeping(atCell, all...), s, impl.Marker{})
	swept("all black, at the end", s, sweeping(atEnd, all...), s, impl.Marker{})
	swept("no words, marking", impl.Slab{}, marking(nil, nil), impl.Slab{}, impl.Marker{})
	swept("no words, sweeping", impl.Slab{}, sweeping(0), impl.Slab{}, impl.Marker{})
	// A black block that leads to one that was not met is right while it marks, and not when it sweeps: it stops there.
	swept("a function's scope unmet", s, marking(nil, []int{atFun}), impl.Slab{}, sweeping(0, atFun))
	swept("the same, others grey", s, marking([]int{atKey}, []int{atFun}), impl.Slab{}, sweeping(0, atKey, atFun))
	swept("the same, met by another", s, marking([]int{atScope}, []int{atFun}), s, impl.Marker{})
}

// Of what is not MarkerOk the slab is zero and the marker is as it was, by however many steps.
func TestP9WrongMarkers(t *testing.T) {
	s := wholeHeap()
	broken := wholeHeap()
	broken.Words[atBytes+1] = 99
	markers := append(wrongMarkers(), sweeping(atObj, reachedObj()...), sweeping(atEnd, reachedObj()...), sweeping(atFree, reachedObj()...), sweeping(atKey+1, reachedObj()...), sweeping(-1, reachedObj()...), sweeping(atEnd+1, reachedObj()...),
		sweeping(2000), sweeping(math.MinInt), sweeping(math.MaxInt), sweeping(0, reachedObj()[1:]...), sweeping(0, append(reachedObj(), atFree)...), sweeping(0, atFun), impl.Marker{Phase: impl.PhSweep, Grey: []int{atBytes}, Black: reachedObj()})
	right, wrong := 0, 0
	for _, m := range markers {
		checkSweeps(t, "whole", s, m, math.MinInt, -1, 0, 1, 2, 100, math.MaxInt)
		checkSweeps(t, "broken", broken, m, 0, 1, 100)
		if impl.MarkerOk(s, m) {
			right++
			continue
		}
		wrong++
		for _, n := range []int{math.MinInt, 0, 1, math.MaxInt} {
			if got, next := impl.SweepStep(s, m, n); len(got.Words) != 0 || !sameMarker(next, m) {
				t.Errorf("SweepStep of %v by %d is %v, %v", m, n, got, next)
			}
		}
		if got, next := impl.Sweep(s, m); len(got.Words) != 0 || !sameMarker(next, m) {
			t.Errorf("Sweep of %v is %v, %v", m, got, next)
		}
	}
	if right < 5 || wrong < 100 {
		t.Errorf("%d markers that are right, %d that are not: too few to tell", right, wrong)
	}
}

func TestP9AnyMarker(t *testing.T) {
	rnd := &dice{9999}
	count := map[string]int{}
	for round := range 4000 {
		s := anyScopes(rnd)
		if round%2 == 0 {
			s = anyHeap(rnd)
		}
		m := anyMarker(rnd, s)
		if round%5 == 0 {
			s.Words[rnd.below(len(s.Words))] += rnd.below(17) - 8
		}
		checkSweeps(t, "any marker", s, m, rnd.below(4)-1, 1, 2+rnd.below(6), 1000)
		count[fmt.Sprintf("%d %v", m.Phase, impl.MarkerOk(s, m))]++
		if t.Failed() {
			return
		}
	}
	for _, kind := range []string{"0 true", "0 false", "1 true", "1 false", "2 true", "2 false"} {
		if count[kind] < 60 {
			t.Errorf("%d markers that are %s: too few to tell; %v", count[kind], kind, count)
		}
	}
}

// Collect and Waste by no roots, by roots that lead to no block, by one and the same twice, and by some that are wrong.
func TestP9CollectAndWaste(t *testing.T) {
	s := wholeHeap()
	plain, _ := impl.SweepStep(s, sweeping(0, reachedObj()...), impl.MaxWords)
	obj, fun := ref(impl.VObj, atObj), ref(impl.VFun, atFun)
	text := func(v int) impl.Slab { return impl.Collect(s, []int{v}) }
	for what, c := range map[string]struct {
		roots []int
		want  impl.Slab
		waste int
	}{
		"none": {nil, heapOf(room(atEnd)), 48}, "a list of none": {[]int{}, heapOf(room(atEnd)), 48},
		"no block":           {[]int{impl.VUndef, impl.VNull, impl.BoolOf(true), impl.IntOf(atObj)}, heapOf(room(atEnd)), 48},
		"an object":          {[]int{obj}, plain, 25},
		"the same twice":     {[]int{obj, obj}, plain, 25},
		"many times":         {slices.Repeat([]int{obj, impl.VNull}, 3000), plain, 25},
		"what it leads to":   {[]int{ref(impl.VText, atKey), obj, ref(impl.VObj, atChild)}, plain, 25},
		"its prototype's":    {[]int{ref(impl.VObj, atChild)}, plain, 25},
		"an empty text":      {[]int{ref(impl.VText, atEmpty)}, text(ref(impl.VText, atEmpty)), 46},
		"a function":         {[]int{fun}, text(fun), 43},
		"all that there is":  {[]int{ref(impl.VFun, atFar)}, s, 0},
		"a value of a scope": {[]int{ref(impl.VInner, atAlone)}, text(ref(impl.VInner, atAlone)), 46},
	} {
		if got := impl.Collect(s, c.roots); !sameWords(got, c.want) {
			t.Errorf("%s: Collect is %v, not %v", what, got, c.want)
		}
		if got := impl.Waste(s, c.roots); got != c.waste {
			t.Errorf("%s: Waste is %d, not %d", what, got, c.waste)
		}
		checkCollected(t, what, s, c.roots)
	}
	g := sightOf(s)
	for _, v := range anyValues() {
		for _, roots := range [][]int{{v}, {v, v}, append(goodRoots(), v), append([]int{v}, goodRoots()...)} {
			if g.root(v) {
				checkCollected(t, "a root", s, roots)
			} else if got, waste := impl.Collect(s, roots), impl.Waste(s, roots); len(got.Words) != 0 || waste != 0 {
				t.Errorf("by %v Collect is %v, Waste %d", roots, got, waste)
			}
		}
	}
	// One block that is not right, be it reached or not: then nothing is told.
	for at, w := range map[int]int{atKey + 2: 256, atObj + 1: impl.VUndef, atFun + 1: 100, atScope + 9: ref(impl.VInner, atAlone), atChild + 3: 1, atFree: 16} {
		broken := wholeHeap()
		broken.Words[at] = w
		for _, roots := range [][]int{nil, {obj}, {ref(impl.VText, atEmpty)}, goodRoots()} {
			if got, waste := impl.Collect(broken, roots), impl.Waste(broken, roots); len(got.Words) != 0 || waste != 0 {
				t.Errorf("wrong at %d: by %v Collect is %v, Waste %d", at, roots, got, waste)
			}
		}
	}
}

// spoiled: an answer of a slab and a marker is written into, one list after the other: no list shares words with another one.
func (u *unchanged) spoiled(t *testing.T, what string, s impl.Slab, m impl.Marker) {
	t.Helper()
	keep := markerClone(m)
	spoil(s)
	if !sameMarker(m, keep) {
		t.Errorf("%s: the slab and the marker of an answer share words", what)
	}
	u.check(t, what, m)
}

// Each function at the ends of int and at slabs, roots and markers of all sorts: it answers as told, and nothing is written into what was handed in or behind it.
func TestP21Sweeps(t *testing.T) {
	slabs := wrongHeaps()
	slabs["whole"] = wholeHeap()
	slabs["no words, not nil"] = impl.Slab{Words: []int{}}
	for name, s := range rightSlabs() {
		slabs["right, "+name] = s
	}
	markers := append(farSteps(), impl.Marker{}, sweeping(0), sweeping(0, 0), sweeping(atEmpty, reachedObj()...), sweeping(atEnd, farSteps()[11].Black...), sweeping(2), sweeping(2000), marking([]int{0}, nil), marking(nil, []int{0}),
		marking([]int{math.MinInt, math.MaxInt}, []int{math.MinInt, 0, math.MaxInt}), impl.Marker{Phase: math.MaxInt, Grey: []int{0}, Black: []int{2}, At: math.MaxInt}, impl.Marker{Phase: math.MinInt, At: math.MinInt},
		impl.Marker{Phase: impl.PhSweep, Grey: []int{0}, Black: []int{2}, At: math.MinInt}, impl.Marker{Phase: impl.PhSweep, Black: []int{0, 2}, At: math.MaxInt}, sweeping(math.MinInt), sweeping(math.MaxInt, math.MinInt, math.MaxInt))
	ends := []int{math.MinInt, math.MinInt + 1, -1, 0, 1, 2, 7, impl.MaxWords, math.MaxInt - 1, math.MaxInt}
	for name, s := range slabs {
		for i, m := range markers {
			u, what := handedIn(s, nil, m), fmt.Sprintf("%s, marker %d", name, i)
			checkSweeps(t, what, u.s, u.m, ends...)
			for _, n := range ends {
				got, next := impl.SweepStep(u.s, u.m, n)
				u.spoiled(t, what+", SweepStep", got, next)
			}
			got, next := impl.Sweep(u.s, u.m)
			u.spoiled(t, what+", Sweep", got, next)
		}
	}
}

func TestP21Collects(t *testing.T) {
	slabs := wrongHeaps()
	slabs["whole"] = wholeHeap()
	slabs["no words"] = impl.Slab{}
	slabs["no words, not nil"] = impl.Slab{Words: []int{}}
	for name, s := range rightSlabs() {
		slabs["right, "+name] = s
	}
	for name, s := range slabs {
		for _, roots := range [][]int{nil, {}, {impl.VUndef}, {impl.IntOf(1), impl.VNull}, {ref(impl.VText, 0)}, goodRoots(), append(goodRoots(), goodRoots()...), append(goodRoots(), math.MinInt), {math.MinInt}, {math.MaxInt}, {math.MaxInt, impl.VNull, math.MinInt}} {
			u := handedIn(s, roots, impl.Marker{})
			var want impl.Slab
			if sightOf(s).rootsOk(roots) {
				want, _ = wantSweep(s, wantStart(s, roots))
			}
			for range 2 {
				got := impl.Collect(u.s, u.roots.Words)
				if !sameWords(got, want) {
					t.Errorf("%s: Collect by %v is %v, not %v", name, roots, got, want)
				}
				u.spoiled(t, name, got, impl.Marker{})
				if waste := impl.Waste(u.s, u.roots.Words); waste != wantWaste(s, roots) {
					t.Errorf("%s: Waste by %v is %d, not %d", name, roots, waste, wantWaste(s, roots))
				}
				u.check(t, name, impl.Marker{})
			}
		}
	}
}

// One answer goes into the next call, and stays as it was.
func TestP21SweepsShareNothing(t *testing.T) {
	s, m := wholeHeap(), sweeping(0, reachedObj()...)
	for step := 0; m.Phase == impl.PhSweep; step++ {
		keep, marker := impl.Slab{Words: slices.Clone(s.Words)}, markerClone(m)
		on, next := impl.SweepStep(s, m, 1)
		for _, n := range []int{-1, 0, 1, 2, 50} {
			got, then := impl.SweepStep(s, m, n)
			spoil(got)
			spoil(impl.Slab{Words: then.Black})
		}
		spoil(impl.Collect(s, nil))
		if !sameWords(s, keep) || !sameMarker(m, marker) {
			t.Fatalf("step %d: %v, %v, not %v, %v", step, s, m, keep, marker)
		}
		s, m = on, next
	}
	if want := impl.Collect(wholeHeap(), []int{ref(impl.VObj, atObj)}); !sameWords(s, want) {
		t.Errorf("at the end %v, not %v", s, want)
	}
}

// Lists far longer than a slab has words, and roots far more than blocks.
func TestP21LongListsToSweep(t *testing.T) {
	const many = 100000
	s := wholeHeap()
	long := make([]int, many)
	for i := range long {
		long[i] = i
	}
	for _, m := range []impl.Marker{sweeping(0, long...), marking(long, nil), sweeping(0, slices.Repeat([]int{atKey}, many)...), {Grey: long}} {
		if got, next := impl.SweepStep(s, m, 3); len(got.Words) != 0 || !sameMarker(next, m) {
			t.Errorf("phase %d: a list of %d places: %v", m.Phase, many, got)
		}
		if got, next := impl.Sweep(s, m); len(got.Words) != 0 || !sameMarker(next, m) {
			t.Errorf("phase %d: a list of %d places, Sweep: %v", m.Phase, many, got)
		}
	}
	roots := slices.Repeat([]int{ref(impl.VInner, atAlone), impl.VNull}, many)
	if got := impl.Collect(s, roots); !sameWords(got, impl.Collect(s, roots[:1])) || impl.Waste(s, roots) != 46 {
		t.Errorf("from many roots: %v, %d", got, impl.Waste(s, roots))
	}
	if got := impl.Collect(s, append(roots, math.MinInt)); len(got.Words) != 0 {
		t.Errorf("from many roots, the last one wrong: %v", got)
	}
}

// wantNoMore: no more goes on than before; one that is over already may be counted for some moments.
func wantNoMore(t *testing.T, before int) {
	t.Helper()
	for range 2000 {
		if runtime.NumGoroutine() <= before {
			return
		}
		time.Sleep(time.Millisecond)
	}
	t.Errorf("%d go on, where %d did", runtime.NumGoroutine(), before)
}

// Nothing goes on when it has answered, whatever it was asked.
func TestP21NothingGoesOn(t *testing.T) {
	before := runtime.NumGoroutine()
	s := wholeHeap()
	for _, m := range []impl.Marker{{}, sweeping(0), sweeping(0, reachedObj()...), sweeping(atEmpty, reachedObj()...), sweeping(atEnd, reachedObj()...), marking([]int{atObj}, nil), marking(nil, []int{atFun}), {Phase: 7}} {
		for n := -1; n < 14; n++ {
			for range 5 {
				impl.SweepStep(s, m, n)
				impl.Sweep(s, m)
				impl.Collect(s, goodRoots())
				impl.Collect(s, []int{8})
				impl.Waste(s, goodRoots())
				impl.SweepStep(impl.Slab{}, m, n)
			}
		}
	}
	wantNoMore(t, before)
}

// Called by many at once with the same slab and marker: each is told the same.
func TestP21ManyAtOnce(t *testing.T) {
	before := runtime.NumGoroutine()
	s, m, roots := wholeHeap(), sweeping(0, reachedObj()...), []int{ref(impl.VObj, atObj)}
	want := impl.Collect(s, roots)
	half, then := impl.SweepStep(s, m, 9)
	var all sync.WaitGroup
	for range 16 {
		all.Go(func() {
			for range 50 {
				got, next := impl.Sweep(s, m)
				if !sameWords(got, want) || !sameMarker(next, impl.Marker{}) || !sameWords(impl.Collect(s, roots), want) {
					t.Errorf("at once: %v, %v", got, next)
				}
				if got, next = impl.SweepStep(s, m, 9); !sameWords(got, half) || !sameMarker(next, then) {
					t.Errorf("at once, nine steps: %v, %v", got, next)
				}
			}
		})
	}
	all.Wait()
	wantNoMore(t, before)
}
