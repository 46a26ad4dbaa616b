package tests

import (
	"fmt"
	"math"
	"slices"
	"testing"

	"loop.example/g00242/impl"
)

func sameMarker(a, b impl.Marker) bool {
	return a.Phase == b.Phase && a.At == b.At && slices.Equal(a.Grey, b.Grey) && slices.Equal(a.Black, b.Black)
}

func markerClone(m impl.Marker) impl.Marker {
	return impl.Marker{Phase: m.Phase, Grey: slices.Clone(m.Grey), Black: slices.Clone(m.Black), At: m.At}
}

func marking(grey, black []int) impl.Marker {
	return impl.Marker{Phase: impl.PhMark, Grey: grey, Black: black}
}

func sweeping(at int, black ...int) impl.Marker {
	return impl.Marker{Phase: impl.PhSweep, Black: black, At: at}
}

// goal: the place of the block to which a value leads by chapter 3: a VInner to a cell or to a scope.
func (g sight) goal(v int) (int, bool) {
	ok := g.leadsTo(v, 4, impl.BkText) || g.leadsTo(v, 5, impl.BkObj) || g.leadsTo(v, 6, impl.BkFun) || g.leadsTo(v, 7, impl.BkCell) || g.leadsTo(v, 7, impl.BkScope)
	return wantNum(v), ok
}

func (g sight) taken(at int) bool {
	i := slices.Index(g.places, at)
	return i >= 0 && g.kinds[i] != impl.BkFree
}

// leadsAmong: each value of the block that leads to a block leads to one of these.
func (g sight) leadsAmong(at int, places []int) bool {
	for _, v := range g.valuesAt(at) {
		if to, ok := g.goal(v); ok && !slices.Contains(places, to) {
			return false
		}
	}
	return true
}

func wantMarkerOk(s impl.Slab, m impl.Marker) bool {
	g := sightOf(s)
	if !g.ok || m.Phase < 0 || m.Phase > 2 {
		return false
	}
	count := map[int]int{}
	for _, at := range append(slices.Clone(m.Grey), m.Black...) {
		count[at]++
		if count[at] > 1 || !g.taken(at) {
			return false
		}
	}
	for i := 1; i < len(m.Black); i++ {
		if m.Black[i-1] >= m.Black[i] {
			return false
		}
	}
	if m.Phase == impl.PhSweep {
		return wantSweepOk(g, m)
	}
	return g.heap() && m.At == 0 && (m.Phase == impl.PhMark || len(m.Grey) == 0 && len(m.Black) == 0)
}

func wantSweepOk(g sight, m impl.Marker) bool {
	if len(m.Grey) > 0 || m.At != len(g.words) && !slices.Contains(g.places, m.At) {
		return false
	}
	for _, at := range g.places {
		if at < m.At && g.taken(at) && !slices.Contains(m.Black, at) {
			return false
		}
	}
	return !slices.ContainsFunc(m.Black, func(at int) bool { return !g.shape(at) || !g.leadsAmong(at, m.Black) })
}

func wantTriOk(s impl.Slab, m impl.Marker) bool {
	g := sightOf(s)
	met := append(slices.Clone(m.Grey), m.Black...)
	return wantMarkerOk(s, m) && (m.Phase != impl.PhMark || !slices.ContainsFunc(m.Black, func(at int) bool { return !g.leadsAmong(at, met) }))
}

func wantShade(s impl.Slab, m impl.Marker, v int) impl.Marker {
	out := markerClone(m)
	at, ok := sightOf(s).goal(v)
	if ok && m.Phase == impl.PhMark && !slices.Contains(m.Grey, at) && !slices.Contains(m.Black, at) {
		out.Grey = append(out.Grey, at)
	}
	return out
}

func wantStart(s impl.Slab, roots []int) impl.Marker {
	if !sightOf(s).rootsOk(roots) {
		return impl.Marker{}
	}
	m := impl.Marker{Phase: impl.PhMark}
	for _, v := range roots {
		m = wantShade(s, m, v)
	}
	return m
}

func wantMarkStep(s impl.Slab, m impl.Marker, n int) impl.Marker {
	out := markerClone(m)
	if !wantMarkerOk(s, m) || m.Phase != impl.PhMark {
		return out
	}
	g := sightOf(s)
	for ; n > 0 && len(out.Grey) > 0; n-- {
		at := out.Grey[0]
		out.Grey = out.Grey[1:]
		out.Black = append(out.Black, at)
		slices.Sort(out.Black)
		for _, v := range g.valuesAt(at) {
			out = wantShade(s, out, v)
		}
	}
	if len(out.Grey) == 0 {
		out.Phase = impl.PhSweep
	}
	return out
}

// freshOk: with the place among Black, if it is in neither; where that was ascending it is so still, and all else is as it was.
func freshOk(m, got impl.Marker, at int) bool {
	if m.Phase == impl.PhRest || slices.Contains(m.Grey, at) || slices.Contains(m.Black, at) {
		return sameMarker(m, got)
	}
	rest := markerClone(got)
	i := slices.Index(rest.Black, at)
	if i < 0 || slices.IsSorted(m.Black) && !slices.IsSorted(got.Black) {
		return false
	}
	rest.Black = slices.Delete(rest.Black, i, i+1)
	return sameMarker(m, rest)
}

// checkMark holds what each function tells of a slab and a marker against what the chapter's words say.
func checkMark(t *testing.T, what string, s impl.Slab, m impl.Marker, values, places, steps []int) {
	t.Helper()
	if got := impl.MarkerOk(s, m); got != wantMarkerOk(s, m) {
		t.Errorf("%s: MarkerOk is %v of %v, %v", what, got, m, s)
	}
	if got := impl.TriOk(s, m); got != wantTriOk(s, m) {
		t.Errorf("%s: TriOk is %v of %v, %v", what, got, m, s)
	}
	for _, v := range values {
		if got, want := impl.Shade(s, m, v), wantShade(s, m, v); !sameMarker(got, want) {
			t.Errorf("%s: Shade of %v by %d is %v, not %v, of %v", what, m, v, got, want, s)
		}
	}
	for _, at := range places {
		if got := impl.Fresh(m, at); !freshOk(m, got, at) {
			t.Errorf("%s: Fresh of %v at %d is %v", what, m, at, got)
		}
	}
	for _, n := range steps {
		if got, want := impl.MarkStep(s, m, n), wantMarkStep(s, m, n); !sameMarker(got, want) {
			t.Errorf("%s: MarkStep of %v by %d is %v, not %v, of %v", what, m, n, got, want, s)
		}
	}
}

// wantOks: MarkerOk and TriOk are so, and each function answers by the chapter's words.
func wantOks(t *testing.T, what string, s impl.Slab, m impl.Marker, ok, tri bool) {
	t.Helper()
	if got := impl.MarkerOk(s, m); got != ok {
		t.Errorf("%s: MarkerOk is %v of %v", what, got, m)
	}
	if got := impl.TriOk(s, m); got != tri {
		t.Errorf("%s: TriOk is %v of %v", what, got, m)
	}
	checkMark(t, what, s, m, []int{ref(impl.VText, atKey), ref(impl.VInner, atCell), ref(impl.VObj, atObj)}, []int{atKey, atObj, 1}, []int{-1, 0, 1, 2, 50})
}

func TestP8Constants(t *testing.T) {
	if impl.PhRest != 0 || impl.PhMark != 1 || impl.PhSweep != 2 {
		t.Errorf("the phases are %d, %d, %d", impl.PhRest, impl.PhMark, impl.PhSweep)
	}
}

// farSteps: what a marker of wholeHeap is from its far function on, step by step.
func farSteps() []impl.Marker {
	return []impl.Marker{
		marking([]int{atFar}, nil),
		marking([]int{atScope}, []int{atFar}),
		marking([]int{atAlone, atBytes, atObj, atFun}, []int{atFar, atScope}),
		marking([]int{atBytes, atObj, atFun}, []int{atFar, atAlone, atScope}),
		marking([]int{atObj, atFun}, []int{atBytes, atFar, atAlone, atScope}),
		marking([]int{atFun, atCell}, []int{atBytes, atObj, atFar, atAlone, atScope}),
		marking([]int{atCell}, []int{atBytes, atObj, atFun, atFar, atAlone, atScope}),
		marking([]int{atKey, atChild, atNext}, []int{atBytes, atObj, atCell, atFun, atFar, atAlone, atScope}),
		marking([]int{atChild, atNext}, []int{atKey, atBytes, atObj, atCell, atFun, atFar, atAlone, atScope}),
		marking([]int{atNext}, []int{atKey, atBytes, atObj, atChild, atCell, atFun, atFar, atAlone, atScope}),
		marking([]int{atEmpty}, []int{atKey, atBytes, atObj, atChild, atCell, atNext, atFun, atFar, atAlone, atScope}),
		sweeping(0, atKey, atEmpty, atBytes, atObj, atChild, atCell, atNext, atFun, atFar, atAlone, atScope),
	}
}

// Each state word for word, from the start and from each state by each number of steps.
func TestP8WordForWord(t *testing.T) {
	s, want := wholeHeap(), farSteps()
	m := impl.Start(s, []int{ref(impl.VFun, atFar)})
	if !sameMarker(m, want[0]) {
		t.Fatalf("the start is %v", m)
	}
	for i := range want {
		wantOks(t, fmt.Sprintf("state %d", i), s, want[i], true, true)
		for n := range len(want) + 3 {
			end := min(i+n, len(want)-1)
			if got := impl.MarkStep(s, want[i], n); !sameMarker(got, want[end]) {
				t.Errorf("%d steps from state %d: %v, not %v", n, i, got, want[end])
			}
		}
		for _, n := range []int{impl.MaxWords, math.MaxInt} {
			if got := impl.MarkStep(s, want[i], n); !sameMarker(got, want[len(want)-1]) {
				t.Errorf("%d steps from state %d: %v", n, i, got)
			}
		}
	}
}

// paces: how many steps at a time, one behind the other, and from the first one again.
func paces() map[string][]int {
	return map[string][]int{
		"1": {1}, "2": {2}, "3": {3}, "4": {4}, "7": {7}, "all at once": {impl.MaxWords}, "the most there are": {math.MaxInt},
		"none between": {0, 1, -1, 2, math.MinInt}, "more and more": {1, 2, 3, 4, 5, 6},
	}
}

// markOn marks from a start to its end; ahead of each step and behind it nothing black leads to what was not met.
func markOn(t *testing.T, what string, s impl.Slab, m impl.Marker, pace []int) impl.Marker {
	t.Helper()
	left := len(impl.Blocks(s))
	for i := 0; m.Phase == impl.PhMark; i++ {
		if !impl.MarkerOk(s, m) || !impl.TriOk(s, m) || !wantTriOk(s, m) {
			t.Fatalf("%s: ahead of step %d: %v of %v", what, i, m, s)
		}
		n := pace[i%len(pace)]
		next := impl.MarkStep(s, m, n)
		if want := wantMarkStep(s, m, n); !sameMarker(next, want) {
			t.Fatalf("%s: step %d of %d: %v, not %v, of %v", what, i, n, next, want, s)
		}
		if m = next; i > 5*(left+2) {
			t.Fatalf("%s: no end: %v of %v", what, m, s)
		}
	}
	if !impl.MarkerOk(s, m) || !impl.TriOk(s, m) || !wantTriOk(s, m) {
		t.Fatalf("%s: at the end: %v of %v", what, m, s)
	}
	return m
}

// checkMarked: marked at every pace it comes to the same: what can be reached is black.
func checkMarked(t *testing.T, what string, s impl.Slab, roots []int) {
	t.Helper()
	m := impl.Start(s, roots)
	if want := wantStart(s, roots); !sameMarker(m, want) || m.Phase != impl.PhMark {
		t.Fatalf("%s: Start by %v is %v, not %v, of %v", what, roots, m, want, s)
	}
	want := impl.Marker{Phase: impl.PhSweep, Black: wantReach(s, roots)}
	if !slices.Equal(impl.Reach(s, roots), want.Black) {
		t.Fatalf("%s: Reach by %v is not %v", what, roots, want.Black)
	}
	for name, pace := range paces() {
		if got := markOn(t, what+", "+name, s, m, pace); !sameMarker(got, want) {
			t.Fatalf("%s, %s: from %v comes %v, not %v, of %v", what, name, roots, got, want, s)
		}
	}
}

// The town of chapter 7, laid in any order, with blocks that can't be reached, from all of its roots and from each one that there might be.
func TestP8Town(t *testing.T) {
	rnd := &dice{8}
	for round := range 12 {
		p := town()
		if round%2 == 1 {
			p = p.withUnreached()
		}
		s, roots := p.laid(shuffled(rnd, len(p.blocks)), rnd)
		checkMarked(t, "town", s, roots)
		if black := impl.MarkStep(s, impl.Start(s, roots), 13).Black; len(black) != 13 {
			t.Errorf("of 13 blocks that are reached %d are black", len(black))
		}
		all := append(append(scopesOf(s), functionsOf(s)...), objectsOf(s)...)
		for _, v := range append(all, namesOf(s)...) {
			checkMarked(t, "part", s, []int{v})
		}
	}
}

func TestP8Circles(t *testing.T) {
	for n := 1; n <= 5; n++ {
		for back := range n {
			s, obj, names := circleOf(n, back, 4)
			checkMarked(t, "cells", s, []int{obj})
			checkMarked(t, "cells", s, []int{names[n], obj})
			r := ring(n, back)
			for i := range n {
				checkMarked(t, "scopes", r, []int{ref(impl.VInner, 4*i)})
			}
			checkMarked(t, "functions", r, functionsOf(r))
		}
	}
	self := heapOf(holding(impl.BkObj, ref(impl.VObj, 0), impl.VUndef), holding(impl.BkScope, ref(impl.VInner, 3)), holding(impl.BkObj, ref(impl.VObj, 0), impl.VUndef))
	checkMarked(t, "its own prototype", self, []int{ref(impl.VObj, 0)})
	checkMarked(t, "within itself", self, []int{ref(impl.VInner, 3)})
	checkMarked(t, "none", self, nil)
}

func TestP8AnyHeap(t *testing.T) {
	rnd := &dice{88}
	parts := 0
	for round := range 400 {
		s := anyScopes(rnd)
		if round%2 == 0 {
			s = anyHeap(rnd)
		}
		roots := anyRoots(rnd, s)
		checkMarked(t, "any heap", s, roots)
		if n := len(impl.Reach(s, roots)); n > 1 && n < len(impl.Blocks(s))-1 {
			parts++
		}
	}
	if parts < 100 {
		t.Errorf("%d heaps of which a part is reached: too few to tell", parts)
	}
}

// The greatest slab, of as many blocks as there may be: a row of scopes one within the other, and one scope that leads to all of the texts.
func TestP8Most(t *testing.T) {
	var row []body
	for i := range 1000 {
		up := ref(impl.VInner, 2*(i+1))
		if i == 999 {
			up = impl.VUndef
		}
		row = append(row, holding(impl.BkScope, up))
	}
	fan := holding(impl.BkScope, impl.VUndef)
	var bodies []body
	for i := range 665 {
		bodies = append(bodies, holding(impl.BkText, 0))
		fan.words = append(fan.words, ref(impl.VText, 2*(664-i)))
	}
	for what, c := range map[string]struct {
		s    impl.Slab
		root int
		all  int
	}{
		"row": {heapOf(row...), ref(impl.VInner, 0), 1000},
		"fan": {heapOf(append(bodies, fan)...), ref(impl.VInner, 1330), 666},
	} {
		m := impl.Start(c.s, []int{c.root})
		all := impl.MarkStep(c.s, m, c.all)
		if all.Phase != impl.PhSweep || len(all.Black) != c.all || !slices.Equal(all.Black, impl.Blocks(c.s)) || !impl.MarkerOk(c.s, all) {
			t.Errorf("%s: %d black, phase %d", what, len(all.Black), all.Phase)
		}
		before := impl.MarkStep(c.s, m, c.all-1)
		if before.Phase != impl.PhMark || len(before.Black) != c.all-1 || len(before.Grey) != 1 || !impl.TriOk(c.s, before) {
			t.Errorf("%s: one step ahead of the end: %d black, %d grey, phase %d", what, len(before.Black), len(before.Grey), before.Phase)
		}
		for m.Phase == impl.PhMark {
			m = impl.MarkStep(c.s, m, 37)
		}
		if !sameMarker(m, all) {
			t.Errorf("%s: by 37 steps it comes to another end", what)
		}
	}
}

// When it turns to sweeping: where Grey is empty behind the steps, however many they were.
func TestP8TurnsToSweeping(t *testing.T) {
	s := wholeHeap()
	empty, one := ref(impl.VText, atEmpty), []int{atEmpty}
	two := []int{atEmpty, atKey}
	for what, c := range map[string]struct {
		m    impl.Marker
		n    int
		want impl.Marker
	}{
		"no step, Grey empty":             {marking(nil, one), 0, sweeping(0, atEmpty)},
		"a step below 0, Grey empty":      {marking(nil, one), -1, sweeping(0, atEmpty)},
		"the least step, Grey empty":      {marking(nil, one), math.MinInt, sweeping(0, atEmpty)},
		"a step, Grey empty":              {marking(nil, one), 1, sweeping(0, atEmpty)},
		"no step, nothing met":            {marking(nil, nil), 0, sweeping(0)},
		"a step below 0, nothing met":     {marking([]int{}, []int{}), -7, sweeping(0)},
		"the most steps, nothing met":     {marking(nil, nil), math.MaxInt, sweeping(0)},
		"no step, Grey not empty":         {marking(one, nil), 0, marking(one, nil)},
		"a step below 0, Grey not empty":  {marking(one, nil), -1, marking(one, nil)},
		"the least step, Grey not empty":  {marking(one, nil), math.MinInt, marking(one, nil)},
		"the step that empties Grey":      {marking(one, nil), 1, sweeping(0, atEmpty)},
		"one of two steps":                {marking(two, nil), 1, marking([]int{atKey}, one)},
		"both of two steps":               {marking(two, nil), 2, sweeping(0, atKey, atEmpty)},
		"one more than two steps":         {marking(two, nil), 3, sweeping(0, atKey, atEmpty)},
		"a step that leads on":            {marking([]int{atFun}, nil), 1, marking([]int{atAlone}, []int{atFun})},
		"a step that leads to black ones": {marking([]int{atFun}, []int{atAlone}), 1, sweeping(0, atFun, atAlone)},
		"a black one to what was not met": {marking(nil, []int{atFun}), 0, sweeping(0, atFun)},
	} {
		if !impl.MarkerOk(s, c.m) {
			t.Fatalf("%s: no marker: %v", what, c.m)
		}
		got := impl.MarkStep(s, c.m, c.n)
		if !sameMarker(got, c.want) {
			t.Errorf("%s: %v, not %v", what, got, c.want)
		}
		checkMark(t, what, s, c.m, nil, nil, []int{c.n})
		if got.Phase != impl.PhSweep {
			continue
		}
		for _, n := range []int{math.MinInt, -1, 0, 1, 5, math.MaxInt} {
			if more := impl.MarkStep(s, got, n); !sameMarker(more, got) {
				t.Errorf("%s: %d steps behind the end: %v", what, n, more)
			}
		}
	}
	for _, roots := range [][]int{nil, {}, {impl.VUndef}, {impl.VNull, impl.IntOf(atObj), impl.BoolOf(true), impl.VUndef}} {
		m := impl.Start(s, roots)
		if !sameMarker(m, marking(nil, nil)) || !impl.TriOk(s, m) {
			t.Errorf("roots that lead to no block: %v", m)
		}
		for _, n := range []int{-1, 0, 1} {
			if got := impl.MarkStep(s, m, n); !sameMarker(got, sweeping(0)) || !impl.TriOk(s, got) {
				t.Errorf("roots that lead to no block, %d steps: %v", n, got)
			}
		}
	}
	if m := impl.MarkStep(s, impl.Start(s, []int{empty}), 0); m.Phase != impl.PhMark {
		t.Errorf("a root that leads to a text, no step: %v", m)
	}
}

// Of what is at rest, sweeps, or is not right no step is made.
func TestP8NoStep(t *testing.T) {
	s := wholeHeap()
	broken := wholeHeap()
	broken.Words[atBytes+1] = 99
	for what, c := range map[string]struct {
		s impl.Slab
		m impl.Marker
	}{
		"at rest":                       {s, impl.Marker{}},
		"at rest, Grey":                 {s, impl.Marker{Grey: []int{atKey}}},
		"sweeping":                      {s, sweeping(atEmpty, atKey)},
		"sweeping, Grey":                {s, impl.Marker{Phase: impl.PhSweep, Grey: []int{atKey}}},
		"phase 3":                       {s, impl.Marker{Phase: 3, Grey: []int{atKey}}},
		"phase -1":                      {s, impl.Marker{Phase: -1, Grey: []int{atKey}}},
		"At 5":                          {s, impl.Marker{Phase: impl.PhMark, Grey: []int{atKey}, At: atEmpty}},
		"Grey empty, At 5":              {s, impl.Marker{Phase: impl.PhMark, At: atEmpty}},
		"Black not ascending":           {s, marking(nil, []int{atEmpty, atKey})},
		"Grey and Black":                {s, marking([]int{atKey, atEmpty}, []int{atKey})},
		"a free block":                  {s, marking([]int{atKey, atFree}, nil)},
		"beyond the end":                {s, marking([]int{atKey, atEnd}, nil)},
		"a heap that is not right":      {broken, marking([]int{atKey}, nil)},
		"the same, Grey empty":          {broken, marking(nil, []int{atKey})},
		"a slab that is not right":      {impl.Slab{Words: []int{17, 0, 8}}, marking(nil, nil)},
		"a slab of no words, a place 0": {impl.Slab{}, marking([]int{0}, nil)},
	} {
		for _, n := range []int{math.MinInt, -1, 0, 1, 2, 100, math.MaxInt} {
			if got := impl.MarkStep(c.s, c.m, n); !sameMarker(got, c.m) {
				t.Errorf("%s: MarkStep of %v by %d is %v", what, c.m, n, got)
			}
		}
	}
}

// The order of Grey: the roots in their order, each block once; then the values of a block behind what is there.
func TestP8Order(t *testing.T) {
	s := wholeHeap()
	scope, obj, fun, far, alone := ref(impl.VInner, atScope), ref(impl.VObj, atObj), ref(impl.VFun, atFun), ref(impl.VFun, atFar), ref(impl.VInner, atAlone)
	for what, c := range map[string]struct {
		roots []int
		grey  []int
		next  []int
	}{
		"as they come":           {[]int{scope, obj, fun}, []int{atScope, atObj, atFun}, []int{atObj, atFun, atAlone, atBytes, atFar}},
		"the other way round":    {[]int{fun, obj, scope}, []int{atFun, atObj, atScope}, []int{atObj, atScope, atAlone}},
		"twice":                  {[]int{obj, fun, obj, fun, fun, far, obj}, []int{atObj, atFun, atFar}, []int{atFun, atFar, atCell}},
		"plain ones between":     {[]int{impl.VNull, far, impl.IntOf(atObj), obj, impl.VUndef}, []int{atFar, atObj}, []int{atObj, atScope}},
		"a value that is a root": {[]int{fun, alone}, []int{atFun, atAlone}, []int{atAlone}},
		"the root itself":        {[]int{far, scope}, []int{atFar, atScope}, []int{atScope}},
		"values in their order":  {[]int{scope}, []int{atScope}, []int{atAlone, atBytes, atObj, atFun, atFar}},
	} {
		m := impl.Start(s, c.roots)
		if !sameMarker(m, marking(c.grey, nil)) {
			t.Errorf("%s: the start is %v, not %v", what, m, c.grey)
		}
		if m = impl.MarkStep(s, m, 1); !sameMarker(m, marking(c.next, c.grey[:1])) {
			t.Errorf("%s: behind a step: %v, not %v", what, m, c.next)
		}
		checkMarked(t, what, s, c.roots)
	}
	// A value that is there twice in one block, and one that leads to the block itself.
	twice := heapOf(holding(impl.BkScope, ref(impl.VInner, 0), ref(impl.VText, 8), ref(impl.VText, 6), ref(impl.VText, 8), ref(impl.VText, 6)), holding(impl.BkText, 0), holding(impl.BkText, 0))
	m := impl.MarkStep(twice, impl.Start(twice, []int{ref(impl.VInner, 0)}), 1)
	if !sameMarker(m, marking([]int{8, 6}, []int{0})) {
		t.Errorf("values that are there twice: %v", m)
	}
}

// Start of what is not RootsOk is zero, however many of the roots are right.
func TestP8StartOfWrongRoots(t *testing.T) {
	s := wholeHeap()
	g := sightOf(s)
	for _, v := range anyValues() {
		for _, roots := range [][]int{{v}, {v, v}, append(goodRoots(), v), append([]int{v}, goodRoots()...)} {
			got := impl.Start(s, roots)
			if want := wantStart(s, roots); !sameMarker(got, want) {
				t.Errorf("Start by %v is %v, not %v", roots, got, want)
			}
			if (got.Phase == impl.PhMark) != g.root(v) || !impl.TriOk(s, got) {
				t.Errorf("Start by %v is %v", roots, got)
			}
		}
	}
	// A cell is no root, though Shade takes it.
	if got := impl.Start(s, []int{ref(impl.VInner, atCell)}); !sameMarker(got, impl.Marker{}) {
		t.Errorf("Start by a cell is %v", got)
	}
}

// Shade by each value that there is, in each phase.
func TestP8Shade(t *testing.T) {
	s := wholeHeap()
	m := marking([]int{atObj, atAlone}, []int{atBytes, atScope})
	if !impl.MarkerOk(s, m) {
		t.Fatal("no marker")
	}
	behind := func(at int) impl.Marker { return marking([]int{atObj, atAlone, at}, []int{atBytes, atScope}) }
	for what, c := range map[string]struct {
		v    int
		want impl.Marker
	}{
		"undefined": {impl.VUndef, m}, "null": {impl.VNull, m}, "true": {impl.BoolOf(true), m}, "a number like a place": {impl.IntOf(atKey), m},
		"a text": {ref(impl.VText, atKey), behind(atKey)}, "an object": {ref(impl.VObj, atChild), behind(atChild)}, "a function": {ref(impl.VFun, atFar), behind(atFar)},
		"a cell": {ref(impl.VInner, atCell), behind(atCell)}, "a cell with a word more": {ref(impl.VInner, atNext), behind(atNext)},
		"a grey object": {ref(impl.VObj, atObj), m}, "a grey scope": {ref(impl.VInner, atAlone), m}, "a black text": {ref(impl.VText, atBytes), m}, "a black scope": {ref(impl.VInner, atScope), m},
		"a free block as text": {ref(impl.VText, atFree), m}, "as object": {ref(impl.VObj, atFree), m}, "as function": {ref(impl.VFun, atFree), m}, "as scope": {ref(impl.VInner, atFree), m},
		"the middle of a text": {ref(impl.VText, atKey+1), m}, "of an object": {ref(impl.VObj, atChild+1), m}, "of a cell": {ref(impl.VInner, atCell+2), m}, "of a function": {ref(impl.VFun, atFun+1), m},
		"a text that is an object": {ref(impl.VText, atChild), m}, "an object that is a cell": {ref(impl.VObj, atCell), m}, "a function that is a text": {ref(impl.VFun, atKey), m},
		"a scope that is a text": {ref(impl.VInner, atKey), m}, "that is an object": {ref(impl.VInner, atChild), m}, "that is a function": {ref(impl.VInner, atFun), m},
		"the end": {ref(impl.VText, atEnd), m}, "the last word": {ref(impl.VText, atEnd-1), m}, "below nought": {ref(impl.VText, -1), m}, "place 1999": {ref(impl.VObj, 1999), m}, "place 2000": {ref(impl.VObj, 2000), m},
		"no value": {8, m}, "no value that has a kind": {9, m}, "the least": {math.MinInt, m}, "the greatest": {math.MaxInt, m}, "the least text": {math.MinInt + 4, m},
	} {
		if got := impl.Shade(s, m, c.v); !sameMarker(got, c.want) {
			t.Errorf("%s: Shade by %d is %v, not %v", what, c.v, got, c.want)
		}
	}
	var values []int
	for at := -1; at <= atEnd; at++ {
		for kind := range 8 {
			values = append(values, ref(kind, at))
		}
	}
	values = append(values, anyValues()...)
	checkMark(t, "each value", s, m, values, nil, nil)
	for _, phase := range []int{math.MinInt, -1, impl.PhRest, impl.PhSweep, 3, math.MaxInt} {
		other := impl.Marker{Phase: phase, Grey: m.Grey, Black: m.Black, At: 7}
		for _, v := range values {
			if got := impl.Shade(s, other, v); !sameMarker(got, other) {
				t.Errorf("phase %d: Shade by %d is %v", phase, v, got)
			}
		}
	}
}

// Shade asks for no more than its words say: a slab with that block, and PhMark; lists that are not right are kept as they are.
func TestP8ShadeOfWrongMarkers(t *testing.T) {
	broken := wholeHeap()
	broken.Words[atChild+1] = impl.VUndef
	for what, s := range map[string]impl.Slab{"whole": wholeHeap(), "not HeapOk": broken} {
		values := []int{ref(impl.VText, atKey), ref(impl.VText, atEmpty), ref(impl.VInner, atNext), ref(impl.VObj, atFree), ref(impl.VFun, 1999), math.MinInt + 4, math.MaxInt}
		for _, m := range wrongMarkers() {
			checkMark(t, what, s, m, values, nil, []int{-1, 2})
		}
		m := impl.Marker{Phase: impl.PhMark, Grey: []int{-1, math.MaxInt, atObj, atObj}, Black: []int{atFree, 3, math.MinInt, 3}, At: 9}
		want := markerClone(m)
		want.Grey = append(want.Grey, atKey)
		if got := impl.Shade(s, m, ref(impl.VText, atKey)); !sameMarker(got, want) {
			t.Errorf("%s: %v, not %v", what, got, want)
		}
		if got := impl.Shade(s, m, ref(impl.VObj, atObj)); !sameMarker(got, m) {
			t.Errorf("%s: %v, not %v", what, got, m)
		}
	}
}

func wrongMarkers() []impl.Marker {
	var out []impl.Marker
	lists := [][]int{nil, {atKey}, {atKey, atEmpty}, {atEmpty, atKey}, {atKey, atKey}, {atFree}, {-1}, {atEnd}, {1}, {math.MinInt, atKey, math.MaxInt}, {1999, 2000, 2001}}
	for _, phase := range []int{math.MinInt, -1, 0, 1, 2, 3, math.MaxInt} {
		for i, grey := range lists {
			for j, black := range lists {
				at := []int{0, 0, 0, atEmpty, 1, atEnd, -1, math.MaxInt, math.MinInt}[(i+3*j)%9]
				out = append(out, impl.Marker{Phase: phase, Grey: grey, Black: black, At: at})
			}
		}
	}
	return out
}

// Fresh in each phase, of places in Grey, in Black and in neither, which no block need have.
func TestP8Fresh(t *testing.T) {
	grey, black := []int{30, 4, 12}, []int{2, 10, 20}
	for _, c := range []struct {
		at   int
		want []int
	}{
		{0, []int{0, 2, 10, 20}}, {1, []int{1, 2, 10, 20}}, {3, []int{2, 3, 10, 20}}, {9, []int{2, 9, 10, 20}}, {11, []int{2, 10, 11, 20}}, {19, []int{2, 10, 19, 20}}, {21, []int{2, 10, 20, 21}},
		{-1, []int{-1, 2, 10, 20}}, {1999, []int{2, 10, 20, 1999}}, {2000, []int{2, 10, 20, 2000}}, {math.MinInt, []int{math.MinInt, 2, 10, 20}}, {math.MaxInt, []int{2, 10, 20, math.MaxInt}},
		{2, black}, {10, black}, {20, black}, {30, black}, {4, black}, {12, black},
	} {
		for _, phase := range []int{math.MinInt, -1, impl.PhRest, impl.PhMark, impl.PhSweep, 3, math.MaxInt} {
			m := impl.Marker{Phase: phase, Grey: grey, Black: black, At: 6}
			want := impl.Marker{Phase: phase, Grey: grey, Black: c.want, At: 6}
			if phase == impl.PhRest {
				want.Black = black
			}
			if got := impl.Fresh(m, c.at); !sameMarker(got, want) {
				t.Errorf("Fresh at %d in phase %d is %v, not %v", c.at, phase, got, want)
			}
		}
	}
	for _, at := range []int{0, 7, -1, math.MinInt, math.MaxInt} {
		if got := impl.Fresh(impl.Marker{}, at); !sameMarker(got, impl.Marker{}) {
			t.Errorf("Fresh of zero at %d is %v", at, got)
		}
		for _, phase := range []int{impl.PhMark, impl.PhSweep} {
			if got := impl.Fresh(impl.Marker{Phase: phase}, at); !sameMarker(got, impl.Marker{Phase: phase, Black: []int{at}}) {
				t.Errorf("Fresh at %d alone, phase %d: %v", at, phase, got)
			}
		}
	}
}

// Places made fresh in any order stay ascending, each once; those in Grey never come in.
func TestP8FreshInAnyOrder(t *testing.T) {
	rnd := &dice{888}
	for _, phase := range []int{impl.PhMark, impl.PhSweep} {
		m := impl.Marker{Phase: phase, Grey: []int{50, 3, 21}}
		for _, at := range shuffled(rnd, 60) {
			for range 2 {
				next := impl.Fresh(m, at)
				if !freshOk(m, next, at) || !slices.IsSorted(next.Black) {
					t.Fatalf("Fresh of %v at %d is %v", m, at, next)
				}
				m = next
			}
		}
		if len(m.Black) != 57 || slices.Contains(m.Black, 50) || slices.Contains(m.Black, 3) || slices.Contains(m.Black, 21) || !slices.Equal(m.Grey, []int{50, 3, 21}) {
			t.Errorf("all of them: %v", m)
		}
	}
	for _, m := range wrongMarkers() {
		for _, at := range []int{math.MinInt, -1, 0, 1, atEmpty, atFree, 1999, 2000, math.MaxInt} {
			if got := impl.Fresh(m, at); !freshOk(m, got, at) {
				t.Errorf("Fresh of %v at %d is %v", m, at, got)
			}
		}
	}
}

// Markers at rest and marking that are wrong in one thing each, beside those that are right.
func TestP8OksAtRestAndMarking(t *testing.T) {
	s := wholeHeap()
	grey, black := []int{atBytes, atObj, atFun}, []int{atFar, atAlone, atScope}
	plain := []int{atKey, atEmpty, atBytes}
	atPhase := func(phase int) impl.Marker { return impl.Marker{Phase: phase} }
	for what, c := range map[string]struct {
		m       impl.Marker
		ok, tri bool
	}{
		"at rest": {impl.Marker{}, true, true}, "at rest, lists of no length": {impl.Marker{Grey: []int{}, Black: []int{}}, true, true},
		"at rest, At 5":              {impl.Marker{At: atEmpty}, false, false},
		"at rest, At the end":        {impl.Marker{At: atEnd}, false, false},
		"at rest, At -1":             {impl.Marker{At: -1}, false, false},
		"at rest, Grey":              {impl.Marker{Grey: []int{atKey}}, false, false},
		"at rest, Black":             {impl.Marker{Black: []int{atKey}}, false, false},
		"phase -1":                   {atPhase(-1), false, false},
		"phase 3":                    {atPhase(3), false, false},
		"the least phase":            {atPhase(math.MinInt), false, false},
		"the greatest phase":         {atPhase(math.MaxInt), false, false},
		"marking":                    {marking(grey, black), true, true},
		"marking, nothing met":       {marking(nil, nil), true, true},
		"marking, Grey alone":        {marking([]int{atScope, atKey, atObj, atCell, atFun}, nil), true, true},
		"marking, texts alone":       {marking(nil, plain), true, true},
		"Grey in any order":          {marking([]int{atFun, atBytes, atObj}, black), true, true},
		"At 5":                       {impl.Marker{Phase: impl.PhMark, Grey: grey, Black: black, At: atEmpty}, false, false},
		"At the end":                 {impl.Marker{Phase: impl.PhMark, Grey: grey, Black: black, At: atEnd}, false, false},
		"At -1":                      {impl.Marker{Phase: impl.PhMark, Grey: grey, Black: black, At: -1}, false, false},
		"a phase that is none":       {impl.Marker{Phase: 3, Grey: grey, Black: black}, false, false},
		"the middle of one in Grey":  {marking([]int{atBytes, atObj, atFun, atKey + 1}, black), false, false},
		"the middle of one in Black": {marking(grey, []int{atFar, atAlone, atAlone + 1, atScope}), false, false},
		"a free one in Grey":         {marking([]int{atBytes, atFree, atObj, atFun}, black), false, false},
		"a free one in Black":        {marking(grey, []int{atFar, atAlone, atScope, atFree}), false, false},
		"the end in Grey":            {marking([]int{atEnd, atBytes, atObj, atFun}, black), false, false},
		"the end in Black":           {marking(grey, []int{atFar, atAlone, atScope, atEnd}), false, false},
		"-1 in Grey":                 {marking([]int{-1, atBytes, atObj, atFun}, black), false, false},
		"-1 in Black":                {marking(grey, []int{-1, atFar, atAlone, atScope}), false, false},
		"2000 in Grey":               {marking([]int{2000}, nil), false, false},
		"the greatest in Black":      {marking(grey, []int{atFar, atAlone, atScope, math.MaxInt}), false, false},
		"the least in Black":         {marking(grey, []int{math.MinInt, atFar, atAlone, atScope}), false, false},
		"the greatest in Grey":       {marking([]int{math.MaxInt}, nil), false, false},
		"the least in Grey":          {marking([]int{math.MinInt}, nil), false, false},
		"twice in Grey":              {marking([]int{atBytes, atObj, atFun, atBytes}, black), false, false},
		"twice in Grey in a row":     {marking([]int{atBytes, atObj, atObj, atFun}, black), false, false},
		"twice in Black":             {marking(grey, []int{atFar, atAlone, atAlone, atScope}), false, false},
		"twice in Black, the last":   {marking(grey, []int{atFar, atAlone, atScope, atScope}), false, false},
		"in both":                    {marking([]int{atBytes, atObj, atFun, atAlone}, black), false, false},
		"Black not ascending":        {marking(grey, []int{atAlone, atFar, atScope}), false, false},
		"Black descending":           {marking(grey, []int{atScope, atAlone, atFar}), false, false},
		"Black's last is not":        {marking(grey, []int{atFar, atScope, atAlone}), false, false},
		"a black one to one unmet":   {marking([]int{atBytes, atObj}, black), true, false},
		"none of Grey":               {marking(nil, black), true, false},
		"a scope's outer one unmet":  {marking(grey, []int{atFar, atScope}), true, false},
		"a function's scope unmet":   {marking(nil, []int{atFun}), true, false},
		"a cell's name unmet":        {marking([]int{atChild, atNext}, []int{atCell}), true, false},
		"a cell's value unmet":       {marking([]int{atKey, atNext}, []int{atCell}), true, false},
		"a cell's next unmet":        {marking([]int{atKey, atChild}, []int{atCell}), true, false},
		"a cell's all met":           {marking([]int{atKey, atChild, atNext}, []int{atCell}), true, true},
		"an object's cell unmet":     {marking(nil, []int{atObj}), true, false},
		"an object's cell met":       {marking([]int{atCell}, []int{atObj}), true, true},
		"a prototype unmet":          {marking(nil, []int{atChild}), true, false},
		"a prototype grey":           {marking([]int{atObj}, []int{atChild}), true, true},
		"a prototype black":          {marking([]int{atCell}, []int{atObj, atChild}), true, true},
		"grey ones may lead anyhow":  {marking([]int{atChild, atScope, atCell}, []int{atEmpty}), true, true},
	} {
		wantOks(t, what, s, c.m, c.ok, c.tri)
	}
}

// Where the slab is no slab, nothing is right in any phase, At wherever it may be.
func TestP8OksOfWrongSlabs(t *testing.T) {
	wrong := wrongSlabs()
	wrong["far too long"] = impl.Slab{Words: slices.Repeat([]int{16 + impl.BkText, 0}, 1500)}
	wrong["far too long and one word"] = impl.Slab{Words: append(slices.Repeat([]int{16 + impl.BkText, 0}, 1500), 16)}
	for what, s := range wrong {
		for phase := impl.PhRest; phase <= impl.PhSweep; phase++ {
			for _, at := range []int{0, 2, 1999, 2000, len(s.Words) - 1, len(s.Words)} {
				for _, black := range [][]int{nil, {0}, {2}, {0, 2}} {
					wantOks(t, what, s, impl.Marker{Phase: phase, Black: black, At: at}, false, false)
				}
			}
		}
		if got := impl.Shade(s, marking(nil, nil), ref(impl.VText, 0)); !sameMarker(got, marking(nil, nil)) {
			t.Errorf("%s: Shade is %v", what, got)
		}
	}
}

// Where the slab is no heap, nothing is right at rest or marking, whatever was met.
func TestP8OksOfWrongHeaps(t *testing.T) {
	for what, s := range wrongHeaps() {
		for _, m := range []impl.Marker{{}, marking(nil, nil), marking([]int{0}, nil), marking(nil, []int{0}), {Phase: 3}} {
			wantOks(t, what, s, m, false, false)
		}
	}
	for at, w := range map[int]int{atKey + 2: 256, atObj + 1: impl.VUndef, atCell + 1: ref(impl.VText, atObj), atFun + 1: 100, atAlone + 1: impl.VNull, atScope + 9: ref(impl.VInner, atAlone), atChild + 3: 1} {
		s := wholeHeap()
		s.Words[at] = w
		what := fmt.Sprintf("wrong at %d", at)
		for _, m := range []impl.Marker{{}, marking(nil, nil), marking([]int{atBytes}, nil), marking(nil, []int{atBytes})} {
			wantOks(t, what, s, m, false, false)
		}
		wantOks(t, what, s, sweeping(0), true, true)
		wantOks(t, what, s, sweeping(0, atBytes), true, true)
	}
}

// reachedObj: what the object of wholeHeap leads to, and itself.
func reachedObj() []int { return []int{atKey, atEmpty, atObj, atChild, atCell, atNext} }

func TestP8OksSweeping(t *testing.T) {
	s := wholeHeap()
	obj := reachedObj()
	all := impl.Reach(s, []int{ref(impl.VFun, atFar)})
	for what, c := range map[string]struct {
		m  impl.Marker
		ok bool
	}{
		"from the first": {sweeping(0, obj...), true}, "at the second": {sweeping(atEmpty, obj...), true}, "at the one that is not black": {sweeping(atBytes, obj...), true},
		"behind one that is not black":    {sweeping(atObj, obj...), false},
		"at the free one":                 {sweeping(atFree, obj...), false},
		"at the end, some are not black":  {sweeping(atEnd, obj...), false},
		"all black, at the free one":      {sweeping(atFree, all...), true},
		"all black, at the end":           {sweeping(atEnd, all...), true},
		"all black, at the last scope":    {sweeping(atScope, all...), true},
		"in the middle of a block":        {sweeping(atKey+1, obj...), false},
		"in the middle, all black":        {sweeping(atScope+4, all...), false},
		"in the middle of the free one":   {sweeping(atFree+1, all...), false},
		"the last word":                   {sweeping(atEnd-1, all...), false},
		"one beyond the end":              {sweeping(atEnd+1, all...), false},
		"place 2000":                      {sweeping(2000, all...), false},
		"below nought":                    {sweeping(-1, all...), false},
		"the least":                       {sweeping(math.MinInt, all...), false},
		"the greatest":                    {sweeping(math.MaxInt, all...), false},
		"nothing black":                   {sweeping(0), true},
		"nothing black, at the second":    {sweeping(atEmpty), false},
		"Grey":                            {impl.Marker{Phase: impl.PhSweep, Grey: []int{atBytes}, Black: obj}, false},
		"Grey alone":                      {impl.Marker{Phase: impl.PhSweep, Grey: []int{atBytes}}, false},
		"Black not ascending":             {sweeping(0, atEmpty, atKey, atObj, atChild, atCell, atNext), false},
		"twice in Black":                  {sweeping(0, atKey, atKey, atEmpty, atObj, atChild, atCell, atNext), false},
		"a free one in Black":             {sweeping(0, append(reachedObj(), atFree)...), false},
		"no block in Black":               {sweeping(0, append(reachedObj(), atFree+1)...), false},
		"the end in Black":                {sweeping(0, append(reachedObj(), atEnd)...), false},
		"-1 in Black":                     {sweeping(0, append([]int{-1}, obj...)...), false},
		"the greatest in Black":           {sweeping(0, append(reachedObj(), math.MaxInt)...), false},
		"one that leads nowhere, alone":   {sweeping(0, atAlone), true},
		"a name is not black":             {sweeping(0, obj[1:]...), false},
		"a prototype is not black":        {sweeping(0, atChild), false},
		"a cell is not black":             {sweeping(0, atKey, atEmpty, atObj, atChild, atNext), false},
		"a function's scope is not black": {sweeping(0, atFun), false},
		"a function's scope is black":     {sweeping(0, atFun, atAlone), true},
		"an outer scope is not black":     {sweeping(0, atBytes, atObj, atFun, atFar, atScope), false},
	} {
		wantOks(t, what, s, c.m, c.ok, c.ok)
	}
	// The same under another phase that would be right without its lists.
	for _, phase := range []int{-1, 3, math.MinInt, math.MaxInt} {
		wantOks(t, "no phase", s, impl.Marker{Phase: phase, Black: obj}, false, false)
	}
}

// While it sweeps, what is black has to be right; what was not met, and not swept yet, may be anything.
func TestP8OksSweepingWrongHeaps(t *testing.T) {
	for what, c := range map[string]struct {
		at, word int
		black    []int
		end      int
		ok       bool
	}{
		"an unmet text":                          {atBytes + 1, 99, reachedObj(), 0, true},
		"the same, At there":                     {atBytes + 1, 99, reachedObj(), atBytes, true},
		"the same, swept past":                   {atBytes + 1, 99, reachedObj(), atObj, false},
		"the same, black":                        {atBytes + 1, 99, append([]int{atBytes}, atAlone), 0, false},
		"an unmet function":                      {atFun + 1, -1, reachedObj(), atEmpty, true},
		"an unmet scope that leads nowhere":      {atScope + 1, ref(impl.VInner, 1999), reachedObj(), 0, true},
		"an unmet scope with a word that is far": {atScope + 2, math.MinInt, reachedObj(), 0, true},
		"an unmet scope that leads to black":     {atScope + 2, ref(impl.VObj, atChild), reachedObj(), 0, true},
		"an unmet scope that leads to free":      {atScope + 6, ref(impl.VText, atFree), reachedObj(), 0, true},
		"an unmet object":                        {atObj + 1, math.MaxInt, []int{atKey, atEmpty, atBytes}, atObj, true},
		"a black object without a prototype":     {atObj + 1, impl.VUndef, reachedObj(), 0, false},
		"a black object to a free block":         {atObj + 1, ref(impl.VObj, atFree), reachedObj(), 0, false},
		"a black object with a word more":        {atChild + 3, 1, reachedObj(), 0, false},
		"a black cell to a scope":                {atNext + 3, ref(impl.VInner, atAlone), reachedObj(), 0, false},
		"a black cell to an unmet text":          {atNext + 2, ref(impl.VText, atBytes), reachedObj(), 0, false},
		"a black cell to a black text":           {atNext + 2, ref(impl.VText, atKey), reachedObj(), 0, true},
		"a black cell to an unmet function":      {atNext + 2, ref(impl.VFun, atFun), reachedObj(), 0, false},
		"a black cell to no block":               {atNext + 2, ref(impl.VText, atEnd), reachedObj(), 0, false},
		"a black text with another byte":         {atKey + 2, 'K', reachedObj(), 0, true},
		"a black text with no byte":              {atKey + 2, 256, reachedObj(), 0, false},
		"a free block with anything":             {atFree + 1, 5, reachedObj(), 0, true},
		"no slab":                                {atFree, 8*4 + impl.BkFree, reachedObj(), 0, false},
		"no slab, nothing black":                 {atFree, 8*2 + impl.BkFree, nil, 0, false},
		"an unmet block is none":                 {atScope, 8*10 + 7, reachedObj(), 0, false},
		"a block in pieces":                      {atScope, 8*4 + impl.BkScope, reachedObj(), 0, false},
	} {
		s := wholeHeap()
		s.Words[c.at] = c.word
		wantOks(t, what, s, sweeping(c.end, c.black...), c.ok, c.ok)
	}
	// Each word of each block that was not met is anything.
	for _, at := range []int{atBytes, atFun, atFar, atAlone, atScope, atFree} {
		for i := 1; i < impl.SizeAt(wholeHeap(), at); i++ {
			for _, w := range []int{math.MinInt, -1, 1, 8, 256, ref(impl.VText, atFree), ref(impl.VInner, atCell), ref(impl.VObj, 2000), math.MaxInt} {
				s := wholeHeap()
				s.Words[at+i] = w
				wantOks(t, fmt.Sprintf("%d at %d", w, at+i), s, sweeping(atEmpty, reachedObj()...), true, true)
			}
		}
	}
	// A block that is too short for what it holds, and one swept away that a black one still leads to.
	short := heapOf(holding(impl.BkText, 0), holding(impl.BkObj, 0), holding(impl.BkCell, 0), holding(impl.BkFun, 0))
	wantOks(t, "short ones, unmet", short, sweeping(0, 0), true, true)
	for _, at := range []int{2, 4, 6} {
		wantOks(t, "short ones, black", short, sweeping(0, 0, at), false, false)
	}
	gone := heapOf(holding(impl.BkScope, impl.VUndef, ref(impl.VText, 3)), holding(impl.BkFree, 0))
	wantOks(t, "a text that is gone", gone, sweeping(0, 0), false, false)
	wantOks(t, "a text that is gone, unmet", gone, sweeping(0), true, true)
}

// Free blocks ahead of At count as swept, however many.
func TestP8OksSweptFree(t *testing.T) {
	s := heapOf(holding(impl.BkFree, 5), holding(impl.BkText, 0), holding(impl.BkFree, 5, 5), holding(impl.BkFree, 9), holding(impl.BkText, 1, 'a'))
	for end, ok := range map[int]bool{0: true, 2: true, 4: true, 7: true, 9: true, 12: false, 1: false, 3: false, 5: false, 8: false, 11: false, 13: false} {
		wantOks(t, "one black", s, sweeping(end, 2), ok, ok)
		wantOks(t, "the other black", s, sweeping(end, 9), ok && end <= 2, ok && end <= 2)
		both := ok || end == 12
		wantOks(t, "both black", s, sweeping(end, 2, 9), both, both)
	}
}

// A slab of no words: each phase is right with empty lists and At 0, which is its end.
func TestP8NoWords(t *testing.T) {
	for what, s := range map[string]impl.Slab{"nil": {}, "no words": {Words: []int{}}} {
		for phase := impl.PhRest; phase <= impl.PhSweep; phase++ {
			wantOks(t, what, s, impl.Marker{Phase: phase}, true, true)
			for _, at := range []int{math.MinInt, -1, 1, 2, 2000, math.MaxInt} {
				wantOks(t, what, s, impl.Marker{Phase: phase, At: at}, false, false)
				wantOks(t, what, s, impl.Marker{Phase: phase, Grey: []int{at}}, false, false)
				wantOks(t, what, s, impl.Marker{Phase: phase, Black: []int{at}}, false, false)
			}
			wantOks(t, what, s, impl.Marker{Phase: phase, Black: []int{0}}, false, false)
		}
		for _, v := range anyValues() {
			if got := impl.Shade(s, marking(nil, nil), v); !sameMarker(got, marking(nil, nil)) {
				t.Errorf("%s: Shade by %d is %v", what, v, got)
			}
			want := impl.Marker{}
			if impl.ValueOk(v) && impl.Kind(v) < impl.VText {
				want.Phase = impl.PhMark
			}
			if got := impl.Start(s, []int{v}); !sameMarker(got, want) {
				t.Errorf("%s: Start by %d is %v", what, v, got)
			}
		}
		m := impl.Start(s, nil)
		if end := impl.MarkStep(s, m, 0); m.Phase != impl.PhMark || end.Phase != impl.PhSweep || !impl.TriOk(s, end) {
			t.Errorf("%s: %v, %v", what, m, end)
		}
	}
}

// anyMarker: some places of a slab, and a few that are not, in both lists; often right, often wrong in little.
func anyMarker(rnd *dice, s impl.Slab) impl.Marker {
	m := impl.Marker{Phase: rnd.below(3)}
	if rnd.below(12) == 0 {
		m.Phase = rnd.below(7) - 2
	}
	for _, at := range impl.Blocks(s) {
		if impl.KindAt(s, at) == impl.BkFree && rnd.below(20) > 0 {
			continue
		}
		switch c := rnd.below(8); {
		case c < 3 && m.Phase != impl.PhRest:
			m.Black = append(m.Black, at)
		case c < 5 && m.Phase == impl.PhMark:
			m.Grey = slices.Insert(m.Grey, rnd.below(len(m.Grey)+1), at)
		}
	}
	if m.Phase == impl.PhSweep && rnd.below(3) > 0 {
		m.Black = impl.Reach(s, anyRoots(rnd, s))
	}
	places := append(impl.Blocks(s), len(s.Words))
	if m.Phase == impl.PhSweep {
		m.At = places[rnd.below(rnd.below(len(places))+1)]
	}
	if rnd.below(6) == 0 {
		m.Grey = append(m.Grey, rnd.below(len(s.Words)+2)-1)
	}
	if rnd.below(6) == 0 {
		m.Black = append(m.Black, rnd.below(len(s.Words)+2)-1)
	}
	if rnd.below(12) == 0 {
		m.At = rnd.below(len(s.Words)+3) - 1
	}
	return m
}

func TestP8AnyMarker(t *testing.T) {
	rnd := &dice{8888}
	count := map[string]int{}
	for round := range 4000 {
		s := anyScopes(rnd)
		if round%2 == 0 {
			s = anyHeap(rnd)
		}
		m := anyMarker(rnd, s)
		if round%5 == 0 {
			s.Words[rnd.below(len(s.Words))] += rnd.below(17) - 8
		}
		values := []int{ref(4+rnd.below(4), rnd.below(len(s.Words)+1)), s.Words[rnd.below(len(s.Words))]}
		for _, at := range impl.Blocks(s) {
			values = append(values, ref(4+rnd.below(4), at))
		}
		checkMark(t, "any marker", s, m, values, []int{rnd.below(len(s.Words)), -1}, []int{rnd.below(4) - 1, 1, 1000})
		count[fmt.Sprintf("%d %v %v", m.Phase, impl.MarkerOk(s, m), impl.TriOk(s, m))]++
		if t.Failed() {
			return
		}
	}
	for _, kind := range []string{"0 true true", "0 false false", "1 true true", "1 true false", "1 false false", "2 true true", "2 false false"} {
		if count[kind] < 60 {
			t.Errorf("%d markers that are %s: too few to tell; %v", count[kind], kind, count)
		}
	}
}

// writer: somebody who writes into a heap while it is marked, and says so: what is written is shaded, what is made is fresh.
type writer struct {
	s     impl.Slab
	m     impl.Marker
	roots []int
}

func (w *writer) write(rnd *dice) {
	scopes := scopesOf(w.s)
	values := append(append(append([]int{impl.VNull}, functionsOf(w.s)...), objectsOf(w.s)...), namesOf(w.s)...)
	scope, v := scopes[rnd.below(len(scopes))], values[rnd.below(len(values))]
	switch rnd.below(4) {
	case 0:
		if with, obj, ok := impl.ObjNew(w.s, impl.VNull); ok {
			w.s, w.m = with, impl.Fresh(w.m, impl.Num(obj))
		}
	case 1:
		if with, fun, ok := impl.FunNew(w.s, 5, scope); ok {
			w.s, w.m = with, impl.Shade(with, impl.Fresh(w.m, impl.Num(fun)), scope)
		}
	case 2:
		if with, in, ok := impl.ScopeNew(w.s, scope, 2); ok {
			w.s, w.m = with, impl.Shade(with, impl.Fresh(w.m, impl.Num(in)), scope)
		}
	default:
		if with, ok := impl.VarSet(w.s, scope, 0, rnd.below(3), v); ok {
			w.s, w.m = with, impl.Shade(with, w.m, v)
		}
	}
}

// The promise while others write: ahead of each step and behind it, and at the end all that can be reached is black.
func TestP8WrittenBetween(t *testing.T) {
	rnd := &dice{80}
	more := 0
	for round := range 250 {
		s := anyScopes(rnd)
		s.Words = append(s.Words, heapOf(holding(impl.BkFree, make([]int, 5+rnd.below(40))...)).Words...)
		roots := anyRoots(rnd, s)
		w := &writer{s, impl.Start(s, roots), roots}
		first := impl.MarkStep(s, w.m, impl.MaxWords).Black
		for step := 0; w.m.Phase == impl.PhMark; step++ {
			w.write(rnd)
			if !impl.TriOk(w.s, w.m) || !wantTriOk(w.s, w.m) {
				t.Fatalf("round %d, step %d: written: %v of %v", round, step, w.m, w.s)
			}
			// So few writers, so many steps: it ends.
			w.m = impl.MarkStep(w.s, w.m, 1+step/20)
			if !impl.TriOk(w.s, w.m) || !wantTriOk(w.s, w.m) {
				t.Fatalf("round %d, step %d: marked: %v of %v", round, step, w.m, w.s)
			}
		}
		for _, at := range impl.Reach(w.s, w.roots) {
			if !slices.Contains(w.m.Black, at) {
				t.Fatalf("round %d: %d is reached and not black: %v of %v", round, at, w.m, w.s)
			}
		}
		if len(w.m.Black) > len(first) {
			more++
		}
	}
	if more < 100 {
		t.Errorf("%d rounds in which writing told: too few to tell", more)
	}
}

// unchanged: a slab, roots and a marker that were handed in, with spare room behind all their lists, and what all of that was.
type unchanged struct {
	s, roots, grey, black impl.Slab
	m                     impl.Marker
	before                [4][]int
}

func handedIn(s impl.Slab, roots []int, m impl.Marker) *unchanged {
	u := &unchanged{s: withRoom(s), roots: withRoom(impl.Slab{Words: roots}), grey: withRoom(impl.Slab{Words: m.Grey}), black: withRoom(impl.Slab{Words: m.Black})}
	u.m = impl.Marker{Phase: m.Phase, Grey: u.grey.Words, Black: u.black.Words, At: m.At}
	u.before = u.now()
	return u
}

func (u *unchanged) now() [4][]int {
	return [4][]int{wholeOf(u.s), wholeOf(u.roots), wholeOf(u.grey), wholeOf(u.black)}
}

// check spoils one list of an answer and then the other one: neither is seen in the other one, nor in what was handed in.
func (u *unchanged) check(t *testing.T, what string, got impl.Marker) {
	t.Helper()
	black := slices.Clone(got.Black)
	spoil(impl.Slab{Words: got.Grey})
	if !slices.Equal(got.Black, black) {
		t.Errorf("%s: Grey and Black of an answer share words", what)
	}
	spoil(impl.Slab{Words: got.Black})
	for i, now := range u.now() {
		if !slices.Equal(now, u.before[i]) {
			t.Errorf("%s: what was handed in is changed: %v, not %v", what, now, u.before[i])
		}
	}
}

// Each function at the ends of int and at slabs and markers of all sorts: it answers as told, and nothing is written into what was handed in or behind it.
func TestP21Marks(t *testing.T) {
	slabs := wrongHeaps()
	slabs["whole"] = wholeHeap()
	slabs["no words"] = impl.Slab{}
	for name, s := range rightSlabs() {
		slabs["right, "+name] = s
	}
	markers := append(farSteps(), impl.Marker{}, sweeping(0), sweeping(atEmpty, reachedObj()...), marking([]int{0}, nil), marking(nil, []int{0}), marking([]int{1999, 0, 2000}, []int{1999, -1, 1998}),
		marking([]int{math.MinInt, math.MaxInt}, []int{math.MinInt, 0, math.MaxInt}), impl.Marker{Phase: math.MaxInt, Grey: []int{0}, Black: []int{2}, At: math.MaxInt}, impl.Marker{Phase: math.MinInt, At: math.MinInt},
		impl.Marker{Phase: impl.PhSweep, Grey: []int{0}, Black: []int{2}, At: math.MinInt}, impl.Marker{Phase: impl.PhSweep, Black: []int{0, 2}, At: math.MaxInt})
	ends := []int{math.MinInt, math.MinInt + 4, math.MinInt + 7, -1, 0, 1, 2, ref(impl.VText, 0), ref(impl.VInner, atCell), ref(impl.VInner, atScope), ref(impl.VInner, 1999), math.MaxInt - 2, math.MaxInt}
	for name, s := range slabs {
		for i, m := range markers {
			u, what := handedIn(s, nil, m), fmt.Sprintf("%s, marker %d", name, i)
			checkMark(t, what, u.s, u.m, ends, ends, ends)
			u.check(t, what, impl.Marker{})
			for _, v := range ends {
				u.check(t, what+", Shade", impl.Shade(u.s, u.m, v))
				u.check(t, what+", MarkStep", impl.MarkStep(u.s, u.m, v))
				u.check(t, what+", Fresh", impl.Fresh(u.m, v))
			}
		}
	}
}

func TestP21Start(t *testing.T) {
	slabs := wrongHeaps()
	slabs["whole"] = wholeHeap()
	slabs["no words"] = impl.Slab{}
	for name, s := range slabs {
		for _, roots := range [][]int{nil, {}, {impl.VUndef}, {impl.IntOf(1), impl.VNull}, {ref(impl.VText, 0)}, goodRoots(), append(goodRoots(), goodRoots()...), append(goodRoots(), math.MinInt), {math.MinInt}, {math.MaxInt}, {math.MaxInt, impl.VNull, math.MinInt}} {
			u := handedIn(s, roots, impl.Marker{})
			got, want := impl.Start(u.s, u.roots.Words), wantStart(s, roots)
			if !sameMarker(got, want) {
				t.Errorf("%s: Start by %v is %v, not %v", name, roots, got, want)
			}
			u.check(t, name, got)
			// What one call has handed back is not what the next one hands back.
			if again := impl.Start(u.s, u.roots.Words); !sameMarker(again, want) {
				t.Errorf("%s: Start after its answer was spoilt: %v, not %v", name, again, want)
			}
		}
	}
}

// One answer goes into the next call, and stays as it was.
func TestP21MarksShareNothing(t *testing.T) {
	s := wholeHeap()
	m := impl.Start(s, []int{ref(impl.VFun, atFar), ref(impl.VText, atKey)})
	for step := range 14 {
		keep := markerClone(m)
		next := []impl.Marker{impl.MarkStep(s, m, 0), impl.MarkStep(s, m, 1), impl.MarkStep(s, m, 2), impl.Shade(s, m, ref(impl.VText, atEmpty)), impl.Shade(s, m, impl.VNull), impl.Fresh(m, 1), impl.Fresh(m, atFar)}
		on := markerClone(next[1])
		for i, n := range next {
			spoil(impl.Slab{Words: n.Grey})
			spoil(impl.Slab{Words: n.Black})
			if !sameMarker(m, keep) {
				t.Fatalf("step %d, answer %d: %v, not %v", step, i, m, keep)
			}
		}
		m = on
	}
	if m.Phase != impl.PhSweep || len(m.Black) != 11 {
		t.Errorf("at the end %v", m)
	}
}

// Lists far longer than a slab has words, and roots far more than blocks.
func TestP21LongLists(t *testing.T) {
	const many = 100000
	s := wholeHeap()
	long := make([]int, many)
	for i := range long {
		long[i] = i
	}
	for _, m := range []impl.Marker{marking(long, nil), marking(nil, long), marking(long, long), marking(slices.Repeat([]int{atKey}, many), nil), sweeping(0, long...), {Grey: long}} {
		if impl.MarkerOk(s, m) || impl.TriOk(s, m) || !sameMarker(impl.MarkStep(s, m, 3), m) || !sameMarker(impl.Fresh(m, atKey), m) {
			t.Errorf("phase %d: a list of %d places", m.Phase, many)
		}
	}
	if got := impl.Fresh(marking(long, nil), many); len(got.Black) != 1 || len(got.Grey) != many {
		t.Errorf("%d grey, %d black", len(got.Grey), len(got.Black))
	}
	if got := impl.Start(s, slices.Repeat([]int{ref(impl.VInner, atAlone), impl.VNull}, many)); !sameMarker(got, marking([]int{atAlone}, nil)) {
		t.Errorf("from many roots: %d grey", len(got.Grey))
	}
}
