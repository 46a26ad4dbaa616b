package tests

import (
	"math"
	"slices"
	"strconv"
	"testing"

	"loop.example/g00242/impl"
)

// wantOut: the scope so many further out, in a heap that is right. Of a depth beyond all scopes that there are only what is left of it is gone: whoever comes so far goes round.
func wantOut(s impl.Slab, scope, depth int) (int, bool) {
	if depth < 0 {
		return impl.VUndef, false
	}
	out := func(from, steps int) int {
		for range steps {
			if from == impl.VUndef {
				break
			}
			from = s.Words[wantNum(from)+1]
		}
		return from
	}
	all := len(scopesOf(s))
	if depth <= all {
		at := out(scope, depth)
		return at, at != impl.VUndef
	}
	far := out(scope, all)
	if far == impl.VUndef {
		return impl.VUndef, false
	}
	round := 1
	for out(far, round) != far {
		round++
	}
	return out(far, (depth-all)%round), true
}

// wantVar: the place of a value, by the chapter's words.
func wantVar(s impl.Slab, scope, depth, i int) (int, bool) {
	out, ok := wantOut(s, scope, depth)
	if !ok {
		return 0, false
	}
	at := wantNum(out)
	has := wantNum(s.Words[at]) - 2
	return at + 2 + i, i >= 0 && i < has
}

func wantVarGet(s impl.Slab, scope, depth, i int) (int, bool) {
	at, ok := wantVar(s, scope, depth, i)
	if !ok {
		return impl.VUndef, false
	}
	return s.Words[at], true
}

func wantVarSet(s impl.Slab, scope, depth, i, v int) (impl.Slab, bool) {
	at, ok := wantVar(s, scope, depth, i)
	if !ok || !sightOf(s).plainValue(v) {
		return s, false
	}
	set := impl.Slab{Words: slices.Clone(s.Words)}
	set.Words[at] = v
	return set, true
}

// wantMade: the slab with a block of that body, and the value that leads to it, where it may be made.
func wantMade(s impl.Slab, may bool, b body, kind int) (impl.Slab, int, bool) {
	if !may {
		return s, impl.VUndef, false
	}
	with, at, ok := wantTaken(s, b)
	if !ok {
		return s, impl.VUndef, false
	}
	return with, ref(kind, at), true
}

func wantScopeNew(s impl.Slab, up, n int) (impl.Slab, int, bool) {
	if n < 0 || n > 12 {
		return s, impl.VUndef, false
	}
	may := up == impl.VUndef || sightOf(s).leadsTo(up, impl.VInner, impl.BkScope)
	return wantMade(s, may, holding(impl.BkScope, append([]int{up}, make([]int, n)...)...), impl.VInner)
}

func wantFunNew(s impl.Slab, code, scope int) (impl.Slab, int, bool) {
	may := code >= 0 && code <= 99 && sightOf(s).leadsTo(scope, impl.VInner, impl.BkScope)
	return wantMade(s, may, holding(impl.BkFun, code, scope), impl.VFun)
}

func wantFunOf(s impl.Slab, v int) (int, int, bool) {
	if !sightOf(s).leadsTo(v, impl.VFun, impl.BkFun) {
		return -1, impl.VUndef, false
	}
	return s.Words[wantNum(v)+1], s.Words[wantNum(v)+2], true
}

func scopesOf(s impl.Slab) []int { return valuesOf(s, impl.BkScope, impl.VInner) }

func functionsOf(s impl.Slab) []int { return valuesOf(s, impl.BkFun, impl.VFun) }

// depthsOf: all depths that a heap may have, those beyond, and the ends of int.
func depthsOf(s impl.Slab) []int {
	depths := []int{math.MinInt, math.MinInt + 1, -2, math.MaxInt - 1, math.MaxInt}
	for depth := -1; depth <= len(scopesOf(s))+2; depth++ {
		depths = append(depths, depth)
	}
	return depths
}

// numbersOf: all numbers that a value of the scope may have, those beside, that of the word behind its block among them, and the ends of int.
func numbersOf(s impl.Slab, scope int) []int {
	numbers := []int{math.MinInt, math.MinInt + 1, -3, -2, math.MaxInt - 2, math.MaxInt - 1, math.MaxInt}
	for i := -1; i <= wantNum(s.Words[wantNum(scope)]); i++ {
		numbers = append(numbers, i)
	}
	return numbers
}

// eachVar tells each scope of a heap, each depth, and each number that the scope there may have, right and wrong.
func eachVar(s impl.Slab, tell func(scope, depth, i int)) {
	for _, scope := range scopesOf(s) {
		for _, depth := range depthsOf(s) {
			out, ok := wantOut(s, scope, depth)
			if !ok {
				out = scope
			}
			for _, i := range numbersOf(s, out) {
				tell(scope, depth, i)
			}
		}
	}
}

// checkScopes holds what ScopeAt, VarGet and FunOf tell of a heap against the tests' own reckoning.
func checkScopes(t *testing.T, what string, s impl.Slab) {
	t.Helper()
	for _, scope := range scopesOf(s) {
		for _, depth := range depthsOf(s) {
			want, has := wantOut(s, scope, depth)
			if out, ok := impl.ScopeAt(s, scope, depth); out != want || ok != has {
				t.Errorf("%s: ScopeAt of %d, %d is %d, %v, not %d, %v, in %v", what, scope, depth, out, ok, want, has, s)
			}
		}
	}
	eachVar(s, func(scope, depth, i int) {
		want, has := wantVarGet(s, scope, depth, i)
		if v, ok := impl.VarGet(s, scope, depth, i); v != want || ok != has {
			t.Errorf("%s: VarGet of %d, %d, %d is %d, %v, not %d, %v, in %v", what, scope, depth, i, v, ok, want, has, s)
		}
	})
	for _, f := range functionsOf(s) {
		code, scope, has := wantFunOf(s, f)
		if n, out, ok := impl.FunOf(s, f); n != code || out != scope || ok != has {
			t.Errorf("%s: FunOf of %d is %d, %d, %v, not %d, %d, %v, in %v", what, f, n, out, ok, code, scope, has, s)
		}
	}
}

// somewhere: values of each kind that a scope may hold, those that the heap has blocks for.
func somewhere(s impl.Slab) []int {
	values := []int{impl.VUndef, impl.VNull, impl.BoolOf(false), impl.IntOf(-9)}
	for _, kind := range [][2]int{{impl.BkText, impl.VText}, {impl.BkObj, impl.VObj}, {impl.BkFun, impl.VFun}} {
		if all := valuesOf(s, kind[0], kind[1]); len(all) > 0 {
			values = append(values, all[len(all)-1])
		}
	}
	return values
}

// checkScopeSets does the same for what the others make of a heap.
func checkScopeSets(t *testing.T, what string, s impl.Slab) {
	t.Helper()
	scopes := scopesOf(s)
	eachVar(s, func(scope, depth, i int) {
		for _, v := range append(somewhere(s), scope) {
			want, done := wantVarSet(s, scope, depth, i, v)
			if got, ok := impl.VarSet(s, scope, depth, i, v); ok != done || !sameWords(got, want) {
				t.Errorf("%s: VarSet of %d, %d, %d, %d is %v, %v, not %v, %v", what, scope, depth, i, v, got, ok, want, done)
			}
		}
	})
	for _, up := range append([]int{impl.VUndef}, scopes...) {
		for _, n := range []int{math.MinInt, -2, -1, 0, 1, 5, 11, 12, 13, math.MaxInt - 1, math.MaxInt} {
			checkScopeNew(t, what, s, up, n)
		}
	}
	for _, scope := range scopes {
		for _, code := range []int{math.MinInt, -1, 0, 1, 98, 99, 100, math.MaxInt} {
			checkFunNew(t, what, s, code, scope)
		}
	}
}

func checkScopeNew(t *testing.T, what string, s impl.Slab, up, n int) {
	t.Helper()
	want, v, done := wantScopeNew(s, up, n)
	got, made, ok := impl.ScopeNew(s, up, n)
	if ok != done || made != v || !sameWords(got, want) {
		t.Errorf("%s: ScopeNew of %d, %d is %v, %d, %v, not %v, %d, %v", what, up, n, got, made, ok, want, v, done)
	}
}

func checkFunNew(t *testing.T, what string, s impl.Slab, code, scope int) {
	t.Helper()
	want, v, done := wantFunNew(s, code, scope)
	got, made, ok := impl.FunNew(s, code, scope)
	if ok != done || made != v || !sameWords(got, want) {
		t.Errorf("%s: FunNew of %d, %d is %v, %d, %v, not %v, %d, %v", what, code, scope, got, made, ok, want, v, done)
	}
}

func TestP6Constants(t *testing.T) {
	if impl.MaxVars != 12 {
		t.Errorf("MaxVars is %d", impl.MaxVars)
	}
}

func TestP6ScopeNew(t *testing.T) {
	s := heapOf(holding(impl.BkText, 0), holding(impl.BkFree, 9, 9, 9, 9, 9, 9, 9, 9, 9, 9, 9, 9, 9, 9, 9, 9, 9, 9, 9))
	one, v, ok := impl.ScopeNew(s, impl.VUndef, 0)
	want := heapOf(holding(impl.BkText, 0), holding(impl.BkScope, impl.VUndef), holding(impl.BkFree, 9, 9, 9, 9, 9, 9, 9, 9, 9, 9, 9, 9, 9, 9, 9, 9, 9))
	if !ok || v != ref(impl.VInner, 2) || !sameWords(one, want) {
		t.Fatalf("a scope without values: %v, %d, %v", one, v, ok)
	}
	two, w, ok := impl.ScopeNew(one, v, impl.MaxVars)
	want = heapOf(holding(impl.BkText, 0), holding(impl.BkScope, impl.VUndef), holding(impl.BkScope, v, 0, 0, 0, 0, 0, 0, 0, 0, 0, 0, 0, 0), holding(impl.BkFree, 9, 9, 9))
	if !ok || w != ref(impl.VInner, 4) || !sameWords(two, want) {
		t.Fatalf("a scope of MaxVars: %v, %d, %v", two, w, ok)
	}
	for i := range impl.MaxVars {
		if v, ok := impl.VarGet(two, w, 0, i); !ok || v != impl.VUndef {
			t.Errorf("value %d of a new scope is %d, %v", i, v, ok)
		}
	}
	for i, at := range map[int]int{-1: w, impl.MaxVars: w, 0: v} {
		if v, ok := impl.VarGet(two, at, 0, i); ok || v != impl.VUndef {
			t.Errorf("value %d of %d is %d, %v", i, at, v, ok)
		}
	}
	checkScopes(t, "two", two)
	checkScopeSets(t, "two", two)
}

// How many values are asked for at its edges, in a slab with all the room that there may be.
func TestP6HowMany(t *testing.T) {
	s, _ := impl.SlabNew(impl.MaxWords)
	for _, n := range []int{math.MinInt, math.MinInt + 1, -13, -2, -1, 13, 14, 1998, 1999, math.MaxInt - 2, math.MaxInt - 1, math.MaxInt} {
		if got, v, ok := impl.ScopeNew(s, impl.VUndef, n); ok || v != impl.VUndef || !sameWords(got, s) {
			t.Errorf("a scope of %d: %d, %v", n, v, ok)
		}
	}
	for n := range 13 {
		got, v, ok := impl.ScopeNew(s, impl.VUndef, n)
		if !ok || v != ref(impl.VInner, 0) || impl.SizeAt(got, 0) != n+2 || !impl.HeapOk(got) {
			t.Errorf("a scope of %d: %d, %v", n, v, ok)
		}
		checkScopeNew(t, "all room", s, impl.VUndef, n)
	}
}

// Room for one word less than is needed, for as many, for one more (which is a value of a scope too), and for two more (which are a free block).
func TestP6RoomForScopes(t *testing.T) {
	for n := range impl.MaxVars + 1 {
		for more := -1; more <= 3; more++ {
			size := 2 + n + more
			if size < 2 {
				continue
			}
			free := holding(impl.BkFree, slices.Repeat([]int{77}, size-1)...)
			s := heapOf(holding(impl.BkScope, impl.VUndef), free, holding(impl.BkText, 0))
			up := ref(impl.VInner, 0)
			got, v, ok := impl.ScopeNew(s, up, n)
			if ok != (more >= 0) || impl.Room(got) != map[int]int{-1: size, 0: 0, 1: 0, 2: 2, 3: 3}[more] {
				t.Errorf("a scope of %d in %d words: %v, %d, %v", n, size, got, v, ok)
			}
			checkScopeNew(t, "one piece of room", s, up, n)
			if !ok {
				continue
			}
			has := n
			if more == 1 {
				has = n + 1
			}
			for i := range has {
				if w, ok := impl.VarGet(got, v, 0, i); !ok || w != impl.VUndef {
					t.Errorf("a scope of %d in %d words: value %d is %d, %v", n, size, i, w, ok)
				}
				set, ok := impl.VarSet(got, v, 0, i, impl.IntOf(i))
				if w, has := impl.VarGet(set, v, 0, i); !ok || !has || w != impl.IntOf(i) {
					t.Errorf("a scope of %d in %d words: value %d set is %d, %v, %v", n, size, i, w, ok, has)
				}
			}
			if w, ok := impl.VarGet(got, v, 0, has); ok || w != impl.VUndef {
				t.Errorf("a scope of %d in %d words: value %d is %d, %v", n, size, has, w, ok)
			}
			if set, ok := impl.VarSet(got, v, 0, has, impl.VNull); ok || !sameWords(set, got) {
				t.Errorf("a scope of %d in %d words: value %d is set: %v", n, size, has, set)
			}
		}
	}
	// Two pieces that have together what is needed, and a third that has it.
	s := heapOf(holding(impl.BkFree, 5, 5), holding(impl.BkScope, impl.VUndef), holding(impl.BkFree, 5))
	for n, want := range map[int]bool{0: true, 1: true, 2: false, 3: false} {
		if _, _, ok := impl.ScopeNew(s, impl.VUndef, n); ok != want {
			t.Errorf("a scope of %d in two pieces: %v", n, ok)
		}
		checkScopeNew(t, "two pieces of room", s, ref(impl.VInner, 3), n)
	}
	s.Words = append(s.Words, heapOf(holding(impl.BkText, 0), holding(impl.BkFree, 5, 5, 5, 5)).Words...)
	if got, v, ok := impl.ScopeNew(s, impl.VUndef, 3); !ok || v != ref(impl.VInner, 9) || !impl.HeapOk(got) {
		t.Errorf("a scope in the third piece: %v, %d, %v", got, v, ok)
	}
}

func TestP6RoomForFunctions(t *testing.T) {
	scope := ref(impl.VInner, 0)
	for size, left := range map[int]int{2: 2, 3: 0, 4: 0, 5: 2, 6: 3} {
		free := holding(impl.BkFree, slices.Repeat([]int{-77}, size-1)...)
		s := heapOf(holding(impl.BkScope, impl.VUndef, impl.VNull), free, holding(impl.BkScope, impl.VUndef))
		got, f, ok := impl.FunNew(s, 42, scope)
		if ok != (size >= 3) || impl.Room(got) != left || !impl.HeapOk(got) {
			t.Errorf("a function in %d words: %v, %d, %v", size, got, f, ok)
		}
		if n, out, has := impl.FunOf(got, f); has != ok || ok && (n != 42 || out != scope) {
			t.Errorf("a function in %d words is %d, %d, %v", size, n, out, has)
		}
		checkFunNew(t, "one piece of room", s, 42, scope)
	}
	full := heapOf(holding(impl.BkScope, impl.VUndef))
	if got, f, ok := impl.FunNew(full, 0, scope); ok || f != impl.VUndef || !sameWords(got, full) {
		t.Errorf("a function without room: %v, %d, %v", got, f, ok)
	}
	pieces := heapOf(holding(impl.BkScope, impl.VUndef), holding(impl.BkFree, 0), holding(impl.BkText, 0), holding(impl.BkFree, 0))
	if got, f, ok := impl.FunNew(pieces, 0, scope); ok || f != impl.VUndef || !sameWords(got, pieces) {
		t.Errorf("a function in two pieces of room: %v, %d, %v", got, f, ok)
	}
}

func TestP6FunNew(t *testing.T) {
	s := heapOf(holding(impl.BkScope, impl.VUndef), holding(impl.BkScope, ref(impl.VInner, 0), impl.VNull), holding(impl.BkFree, 3, 3, 3, 3, 3, 3, 3))
	in := ref(impl.VInner, 2)
	for _, code := range []int{0, 1, 50, 98, 99} {
		got, f, ok := impl.FunNew(s, code, in)
		want := heapOf(holding(impl.BkScope, impl.VUndef), holding(impl.BkScope, ref(impl.VInner, 0), impl.VNull), holding(impl.BkFun, code, in), holding(impl.BkFree, 3, 3, 3, 3))
		if !ok || f != ref(impl.VFun, 5) || !sameWords(got, want) {
			t.Errorf("function %d: %v, %d, %v", code, got, f, ok)
		}
		if n, scope, ok := impl.FunOf(got, f); !ok || n != code || scope != in {
			t.Errorf("function %d is %d, %d, %v", code, n, scope, ok)
		}
		checkScopes(t, "function", got)
	}
	for _, code := range []int{math.MinInt, -100, -2, -1, 100, 101, 1000, math.MaxInt} {
		if got, f, ok := impl.FunNew(s, code, in); ok || f != impl.VUndef || !sameWords(got, s) {
			t.Errorf("function %d: %v, %d, %v", code, got, f, ok)
		}
	}
	// Two functions of one number and one scope are two.
	one, f, _ := impl.FunNew(s, 7, in)
	two, g, ok := impl.FunNew(one, 7, in)
	if !ok || f == g || impl.KindAt(two, impl.Num(g)) != impl.BkFun {
		t.Errorf("a second function: %v, %d, %d, %v", two, f, g, ok)
	}
}

// house: scopes one within the other, one beside them, and functions of them.
type house struct {
	s                       impl.Slab
	yard, hall, room, nook  int
	shed                    int
	key, box                int
	inHall, inRoom, alsoHas int
}

func mustScope(t *testing.T, s impl.Slab, up, n int) (impl.Slab, int) {
	t.Helper()
	s, v, ok := impl.ScopeNew(s, up, n)
	if !ok {
		t.Fatalf("no scope of %d within %d", n, up)
	}
	return s, v
}

func mustFun(t *testing.T, s impl.Slab, code, scope int) (impl.Slab, int) {
	t.Helper()
	s, v, ok := impl.FunNew(s, code, scope)
	if !ok {
		t.Fatalf("no function %d of %d", code, scope)
	}
	return s, v
}

// houseOf: yard (2 values), in it hall (3) and shed (1), in hall room (0), in room nook (12).
func houseOf(t *testing.T) house {
	t.Helper()
	var h house
	h.s, _ = impl.SlabNew(100)
	h.s, h.key = mustText(t, h.s, "key")
	h.s, h.yard = mustScope(t, h.s, impl.VUndef, 2)
	h.s, h.hall = mustScope(t, h.s, h.yard, 3)
	h.s, h.inHall = mustFun(t, h.s, 0, h.hall)
	h.s, h.room = mustScope(t, h.s, h.hall, 0)
	h.s, h.shed = mustScope(t, h.s, h.yard, 1)
	h.s, h.box = mustObj(t, h.s, impl.VNull)
	h.s, h.nook = mustScope(t, h.s, h.room, impl.MaxVars)
	h.s, h.inRoom = mustFun(t, h.s, 99, h.room)
	h.s, h.alsoHas = mustFun(t, h.s, 7, h.hall)
	return h
}

func TestP6House(t *testing.T) {
	h := houseOf(t)
	const no = -1
	for _, c := range []struct {
		scope int
		outs  []int
	}{
		{h.yard, []int{h.yard, no, no}},
		{h.hall, []int{h.hall, h.yard, no, no}},
		{h.shed, []int{h.shed, h.yard, no}},
		{h.room, []int{h.room, h.hall, h.yard, no}},
		{h.nook, []int{h.nook, h.room, h.hall, h.yard, no, no, no}},
	} {
		for depth, want := range c.outs {
			has := want != no
			if !has {
				want = impl.VUndef
			}
			if out, ok := impl.ScopeAt(h.s, c.scope, depth); out != want || ok != has {
				t.Errorf("depth %d from %d is %d, %v, not %d", depth, c.scope, out, ok, want)
			}
		}
	}
	for f, want := range map[int][2]int{h.inHall: {0, h.hall}, h.inRoom: {99, h.room}, h.alsoHas: {7, h.hall}} {
		if n, scope, ok := impl.FunOf(h.s, f); !ok || n != want[0] || scope != want[1] {
			t.Errorf("the function %d is %d, %d, %v, not %v", f, n, scope, ok, want)
		}
	}
	checkScopes(t, "house", h.s)
	checkScopeSets(t, "house", h.s)
}

// A value set from within is got at each depth at which its scope lies, and through each function that has it.
func TestP6SetAndGot(t *testing.T) {
	h := houseOf(t)
	s, ok := impl.VarSet(h.s, h.nook, 2, 1, h.box)
	if !ok {
		t.Fatal("not set")
	}
	for scope, depth := range map[int]int{h.hall: 0, h.room: 1, h.nook: 2} {
		if v, ok := impl.VarGet(s, scope, depth, 1); !ok || v != h.box {
			t.Errorf("got from %d, %d: %d, %v", scope, depth, v, ok)
		}
	}
	for f, depth := range map[int]int{h.inHall: 0, h.alsoHas: 0, h.inRoom: 1} {
		_, scope, _ := impl.FunOf(s, f)
		if v, ok := impl.VarGet(s, scope, depth, 1); !ok || v != h.box {
			t.Errorf("got through the function %d: %d, %v", f, v, ok)
		}
		_, before, _ := impl.FunOf(h.s, f)
		if set, ok := impl.VarSet(h.s, before, depth, 1, h.box); !ok || !sameWords(set, s) {
			t.Errorf("set through the function %d: %v, %v", f, set, ok)
		}
	}
	checkGot(t, h.s, s, h.nook, 2, 1, h.box)
	// A function that is set in its own scope, and a second value over the first.
	again, ok := impl.VarSet(s, h.hall, 0, 1, h.inHall)
	if v, has := impl.VarGet(again, h.nook, 2, 1); !ok || !has || v != h.inHall || !impl.HeapOk(again) {
		t.Errorf("set again: %d, %v, %v", v, ok, has)
	}
	back, ok := impl.VarSet(again, h.room, 1, 1, impl.VUndef)
	if !ok || !sameWords(back, h.s) {
		t.Errorf("set back: %v, %v", back, ok)
	}
}

// checkGot: promise 6 itself: what was set is got, from wherever its scope lies at some depth; all other values stay, and so does what functions are.
func checkGot(t *testing.T, s, set impl.Slab, scope, depth, i, v int) {
	t.Helper()
	at, ok := impl.ScopeAt(s, scope, depth)
	if !ok {
		t.Fatalf("there is no scope at %d from %d", depth, scope)
	}
	eachVar(s, func(from, deep, n int) {
		want, has := impl.VarGet(s, from, deep, n)
		if out, ok := impl.ScopeAt(s, from, deep); ok && out == at && n == i {
			want, has = v, true
		}
		if got, ok := impl.VarGet(set, from, deep, n); got != want || ok != has {
			t.Errorf("%d set at %d from %d, number %d: VarGet of %d, %d, %d is %d, %v, not %d, %v", v, depth, scope, i, from, deep, n, got, ok, want, has)
		}
	})
	for _, f := range functionsOf(s) {
		code, has, _ := impl.FunOf(s, f)
		if n, scope, ok := impl.FunOf(set, f); !ok || n != code || scope != has {
			t.Errorf("%d set at %d from %d, number %d: the function %d is %d, %d, %v", v, depth, scope, i, f, n, scope, ok)
		}
	}
}

func TestP6AllElseStays(t *testing.T) {
	h := houseOf(t)
	s := h.s
	// Each value of each scope is another one, so that one in another's place is seen.
	n := 0
	eachVar(h.s, func(scope, depth, i int) {
		if set, ok := impl.VarSet(s, scope, depth, i, impl.IntOf(1000+n)); ok && depth == 0 {
			s, n = set, n+1
		}
	})
	if n != 2+3+0+1+impl.MaxVars {
		t.Fatalf("%d values are set", n)
	}
	checkScopes(t, "full house", s)
	checkScopeSets(t, "full house", s)
	eachVar(s, func(scope, depth, i int) {
		for _, v := range []int{impl.VUndef, h.key, h.box, h.inRoom} {
			if set, ok := impl.VarSet(s, scope, depth, i, v); ok {
				checkGot(t, s, set, scope, depth, i, v)
			}
		}
	})
}

// A block of a scope may have any number of words: all behind the second one are values.
func TestP6MoreWords(t *testing.T) {
	for _, size := range []int{2, 3, 4, 13, 14, 15, 16, 40} {
		s := heapOf(holding(impl.BkText, 0), holding(impl.BkScope, append([]int{impl.VUndef}, make([]int, size-2)...)...), holding(impl.BkScope, ref(impl.VInner, 2), impl.VNull), holding(impl.BkFree, 0, 0, 0))
		for i := range size - 2 {
			s.Words[4+i] = impl.IntOf(i)
		}
		checkScopes(t, "more words", s)
		checkScopeSets(t, "more words", s)
	}
	most := heapOf(holding(impl.BkScope, append([]int{ref(impl.VInner, 0)}, make([]int, 1998)...)...))
	for i, want := range map[int]bool{-2: false, -1: false, 0: true, 12: true, 13: true, 1996: true, 1997: true, 1998: false, 1999: false} {
		set, ok := impl.VarSet(most, ref(impl.VInner, 0), 0, i, impl.VNull)
		v, has := impl.VarGet(set, ref(impl.VInner, 0), 5, i)
		if ok != want || has != want || want && v != impl.VNull {
			t.Errorf("value %d of 1998: %v, %d, %v", i, ok, v, has)
		}
	}
	// Functions with a word more than they need.
	fun := heapOf(holding(impl.BkScope, impl.VUndef), holding(impl.BkFun, 99, ref(impl.VInner, 0), 0), holding(impl.BkFun, 0, ref(impl.VInner, 0)))
	checkScopes(t, "functions", fun)
}

// ring: n scopes with two values each, one within the other, the last one within that of number back; a text behind the scopes and room behind that.
func ring(n, back int) impl.Slab {
	var bodies []body
	for i := range n {
		up := 4 * (i + 1)
		if i == n-1 {
			up = 4 * back
		}
		bodies = append(bodies, holding(impl.BkScope, ref(impl.VInner, up), impl.IntOf(i), impl.BoolOf(i%2 == 0)))
	}
	return heapOf(append(bodies, holding(impl.BkText, 0), holding(impl.BkFun, 3, ref(impl.VInner, 0)), holding(impl.BkFree, 0, 0, 0, 0))...)
}

// Scopes that go in a circle have one at any depth, however far out.
func TestP6Circles(t *testing.T) {
	for n := 1; n <= 5; n++ {
		for back := range n {
			s := ring(n, back)
			if !impl.HeapOk(s) {
				t.Fatalf("no heap: %v", s)
			}
			for depth := range 40 {
				want := depth
				if depth >= n {
					want = back + (depth-back)%(n-back)
				}
				if out, ok := impl.ScopeAt(s, ref(impl.VInner, 0), depth); !ok || out != ref(impl.VInner, 4*want) {
					t.Errorf("%d scopes back to %d: depth %d is %d, %v", n, back, depth, out, ok)
				}
			}
			what := strconv.Itoa(n) + " back to " + strconv.Itoa(back)
			checkScopes(t, what, s)
			checkScopeSets(t, what, s)
		}
	}
}

func TestP6FarOut(t *testing.T) {
	// One that is its own outer one; and three, of which the last two go in a circle: the greatest int is odd.
	own := heapOf(holding(impl.BkScope, ref(impl.VInner, 0), impl.IntOf(5)))
	three := heapOf(holding(impl.BkScope, ref(impl.VInner, 3), 1), holding(impl.BkScope, ref(impl.VInner, 6), 1), holding(impl.BkScope, ref(impl.VInner, 3), 1))
	for depth, at := range map[int]int{0: 0, 1: 3, 2: 6, 3: 3, 4: 6, 1000: 6, 1001: 3, math.MaxInt: 3, math.MaxInt - 1: 6} {
		if out, ok := impl.ScopeAt(three, ref(impl.VInner, 0), depth); !ok || out != ref(impl.VInner, at) {
			t.Errorf("depth %d of three: %d, %v", depth, out, ok)
		}
		got, ok := impl.VarSet(three, ref(impl.VInner, 0), depth, 0, impl.VUndef)
		if !ok || got.Words[at+2] != impl.VUndef {
			t.Errorf("depth %d of three: %v, %v", depth, got, ok)
		}
		if v, ok := impl.VarGet(got, ref(impl.VInner, 0), depth, 0); !ok || v != impl.VUndef {
			t.Errorf("depth %d of three is %d, %v", depth, v, ok)
		}
		if v, ok := impl.VarGet(own, ref(impl.VInner, 0), depth, 0); !ok || v != impl.IntOf(5) {
			t.Errorf("depth %d of one: %d, %v", depth, v, ok)
		}
	}
	for _, depth := range []int{math.MinInt, math.MinInt + 1, -3, -2, -1} {
		if out, ok := impl.ScopeAt(own, ref(impl.VInner, 0), depth); ok || out != impl.VUndef {
			t.Errorf("depth %d of one: %d, %v", depth, out, ok)
		}
		if got, ok := impl.VarSet(three, ref(impl.VInner, 3), depth, 0, impl.VUndef); ok || !sameWords(got, three) {
			t.Errorf("depth %d of three: %v, %v", depth, got, ok)
		}
	}
}

// As many scopes as a slab has words for, the outermost one last: in a row, and in a circle.
func TestP6Most(t *testing.T) {
	var bodies []body
	for i := range 1000 {
		bodies = append(bodies, holding(impl.BkScope, ref(impl.VInner, 2*(i+1))))
	}
	bodies[999].words[0] = impl.VUndef
	row, first := heapOf(bodies...), ref(impl.VInner, 0)
	for depth, want := range map[int]int{0: 0, 1: 2, 998: 1996, 999: 1998, 1000: -1, 1001: -1, 2000: -1, math.MaxInt: -1} {
		out, ok := impl.ScopeAt(row, first, depth)
		if ok != (want >= 0) || ok && out != ref(impl.VInner, want) || !ok && out != impl.VUndef {
			t.Errorf("depth %d in a row: %d, %v", depth, out, ok)
		}
	}
	bodies[999].words[0] = ref(impl.VInner, 0)
	circle := heapOf(bodies...)
	for depth, want := range map[int]int{0: 0, 999: 1998, 1000: 0, 1001: 2, 1999: 1998, 2000: 0, math.MaxInt: 2 * (math.MaxInt % 1000)} {
		if out, ok := impl.ScopeAt(circle, first, depth); !ok || out != ref(impl.VInner, want) {
			t.Errorf("depth %d in a circle: %d, %v", depth, out, ok)
		}
	}
}

// Each argument in turn is any value there is: what leads to no block of the kind that is told is refused, and the slab is as it was.
func TestP6OtherKinds(t *testing.T) {
	s := wholeHeap()
	s.Words = append(s.Words, heapOf(holding(impl.BkFree, 0, 0, 0, 0, 0)).Words...)
	g := sightOf(s)
	scope := ref(impl.VInner, atScope)
	for _, v := range anyValues() {
		isScope := g.leadsTo(v, impl.VInner, impl.BkScope)
		if out, ok := impl.ScopeAt(s, v, 0); ok != isScope || ok && out != v || !ok && out != impl.VUndef {
			t.Errorf("ScopeAt of %d: %d, %v", v, out, ok)
		}
		if !isScope {
			wantNoScope(t, s, v)
		}
		if n, out, ok := impl.FunOf(s, v); ok != g.leadsTo(v, impl.VFun, impl.BkFun) || !ok && (n != -1 || out != impl.VUndef) {
			t.Errorf("FunOf of %d: %d, %d, %v", v, n, out, ok)
		}
		for i := range 8 {
			want, done := wantVarSet(s, scope, 0, i, v)
			if got, ok := impl.VarSet(s, scope, 0, i, v); ok != done || ok != g.plainValue(v) || !sameWords(got, want) {
				t.Errorf("VarSet of value %d to %d: %v, %v", i, v, got, ok)
			}
		}
		checkScopeNew(t, "other kinds", s, v, 0)
		checkScopeNew(t, "other kinds", s, v, 3)
		checkFunNew(t, "other kinds", s, 5, v)
		if _, _, ok := impl.ScopeNew(s, v, 1); ok != (isScope || v == impl.VUndef) {
			t.Errorf("ScopeNew within %d: %v", v, ok)
		}
		if _, _, ok := impl.FunNew(s, 0, v); ok != isScope {
			t.Errorf("FunNew of %d: %v", v, ok)
		}
	}
	checkScopes(t, "whole", s)
	checkScopeSets(t, "whole", s)
}

// wantNoScope: what is asked of a value that is no scope of a heap.
func wantNoScope(t *testing.T, s impl.Slab, scope int) {
	t.Helper()
	for _, depth := range []int{math.MinInt, -1, 0, 1, math.MaxInt} {
		if out, ok := impl.ScopeAt(s, scope, depth); ok || out != impl.VUndef {
			t.Errorf("ScopeAt of %d, %d is %d, %v", scope, depth, out, ok)
		}
		for _, i := range []int{math.MinInt, -1, 0, 1, math.MaxInt} {
			if v, ok := impl.VarGet(s, scope, depth, i); ok || v != impl.VUndef {
				t.Errorf("VarGet of %d, %d, %d is %d, %v", scope, depth, i, v, ok)
			}
			if got, ok := impl.VarSet(s, scope, depth, i, impl.VNull); ok || !sameWords(got, s) {
				t.Errorf("VarSet of %d, %d, %d is %v, %v", scope, depth, i, got, ok)
			}
		}
	}
}

// anyScopes: scopes, functions, texts, objects and cells in any order, with any links and values that are right, free blocks between.
func anyScopes(rnd *dice) impl.Slab {
	var kinds []int
	for kind, n := range []int{rnd.below(3), 1, 1, 1, 1 + rnd.below(3), 1 + rnd.below(5)} {
		kinds = append(kinds, slices.Repeat([]int{kind}, n)...)
	}
	for i := range kinds {
		j := rnd.below(i + 1)
		kinds[i], kinds[j] = kinds[j], kinds[i]
	}
	places, at := map[int][]int{}, 0
	bodies := make([]body, len(kinds))
	for i, kind := range kinds {
		need := []int{2 + rnd.below(6), 2, 3, 4, 3, 2 + rnd.below(4)}[kind] + rnd.below(2)
		bodies[i] = holding(kind, make([]int, need-1)...)
		places[kind] = append(places[kind], at)
		at += need
	}
	to := func(kind, block int) int { return ref(kind, places[block][rnd.below(len(places[block]))]) }
	value := func() int {
		switch rnd.below(5) {
		case 0:
			return to(impl.VText, impl.BkText)
		case 1:
			return to(impl.VObj, impl.BkObj)
		case 2:
			return to(impl.VFun, impl.BkFun)
		case 3:
			return impl.IntOf(rnd.below(100) - 50)
		}
		return rnd.below(2)
	}
	for i, kind := range kinds {
		w := bodies[i].words
		switch kind {
		case impl.BkObj:
			w[0] = impl.VNull
		case impl.BkCell:
			w[0], w[1] = to(impl.VText, impl.BkText), value()
		case impl.BkFun:
			w[0], w[1] = rnd.below(100), to(impl.VInner, impl.BkScope)
		case impl.BkScope:
			if rnd.below(4) > 0 {
				w[0] = to(impl.VInner, impl.BkScope)
			}
			for n := range w[1:] {
				w[1+n] = value()
			}
		}
	}
	return heapOf(bodies...)
}

func TestP6AnyHeap(t *testing.T) {
	rnd := &dice{6}
	rounds, ends := 0, 0
	for range 100 {
		s := anyScopes(rnd)
		if !impl.HeapOk(s) {
			t.Fatalf("no heap: %v", s)
		}
		for _, scope := range scopesOf(s) {
			if _, ok := wantOut(s, scope, math.MaxInt); ok {
				rounds++
			} else {
				ends++
			}
		}
		checkScopes(t, "any heap", s)
		checkScopeSets(t, "any heap", s)
		if t.Failed() {
			return
		}
	}
	if rounds < 100 || ends < 100 {
		t.Errorf("%d in a circle, %d not: too few to tell", rounds, ends)
	}
}

// toldScope: a scope as a long walk reckons it.
type toldScope struct {
	up     int
	values []int
}

// A long walk of scopes and functions that are made and of values that are set, beside what is there by the tests' own reckoning.
func TestP6Walk(t *testing.T) {
	rnd := &dice{66}
	for _, size := range []int{20, 60, 150, 400} {
		s, _ := impl.SlabNew(size)
		all, functions := map[int]*toldScope{}, map[int][2]int{}
		var scopes []int
		values := []int{impl.VUndef, impl.VNull, impl.BoolOf(true), impl.IntOf(-1)}
		pick := func(list []int) int { return list[rnd.below(len(list))] }
		for range 300 {
			switch what := rnd.below(10); {
			case what < 2 || len(scopes) == 0:
				up, n := pick(append([]int{impl.VUndef}, scopes...)), rnd.below(5)
				room := hasRoom(s, n+2)
				with, v, ok := impl.ScopeNew(s, up, n)
				if ok != room {
					t.Fatalf("ScopeNew in %d words: %v", size, ok)
				}
				if s = with; ok {
					has := impl.SizeAt(s, impl.Num(v)) - 2
					if has != n && has != n+1 {
						t.Fatalf("a scope of %d has %d values", n, has)
					}
					all[v], scopes = &toldScope{up, make([]int, has)}, append(scopes, v)
				}
			case what < 3:
				code, scope := rnd.below(100), pick(scopes)
				room := hasRoom(s, 3)
				with, f, ok := impl.FunNew(s, code, scope)
				if ok != room {
					t.Fatalf("FunNew in %d words: %v", size, ok)
				}
				if s = with; ok {
					functions[f], values = [2]int{code, scope}, append(values, f)
				}
			default:
				scope, depth, i, v := pick(scopes), rnd.below(4)-1, rnd.below(6)-1, pick(append(values, scopes...))
				at := walkOut(all, scope, depth)
				may := at != nil && i >= 0 && i < len(at.values) && impl.Kind(v) != impl.VInner
				with, ok := impl.VarSet(s, scope, depth, i, v)
				if ok != may {
					t.Fatalf("VarSet of %d, %d, %d, %d in %d words: %v", scope, depth, i, v, size, ok)
				}
				if s = with; ok {
					at.values[i] = v
				}
			}
			if !impl.HeapOk(s) || len(s.Words) != size {
				t.Fatalf("no heap: %v", s)
			}
		}
		walkScopes(t, s, all, functions)
	}
}

func walkOut(all map[int]*toldScope, scope, depth int) *toldScope {
	if depth < 0 {
		return nil
	}
	at := all[scope]
	for ; depth > 0 && at != nil; depth-- {
		at = all[at.up]
	}
	return at
}

func walkScopes(t *testing.T, s impl.Slab, all map[int]*toldScope, functions map[int][2]int) {
	t.Helper()
	for scope := range all {
		for depth := -1; depth <= len(all)+1; depth++ {
			at := walkOut(all, scope, depth)
			out, ok := impl.ScopeAt(s, scope, depth)
			if ok != (at != nil) || ok && all[out] != at {
				t.Errorf("ScopeAt of %d, %d is %d, %v", scope, depth, out, ok)
			}
			for i := -1; i < 7; i++ {
				want, has := impl.VUndef, at != nil && i >= 0 && i < len(at.values)
				if has {
					want = at.values[i]
				}
				if v, ok := impl.VarGet(s, scope, depth, i); v != want || ok != has {
					t.Errorf("VarGet of %d, %d, %d is %d, %v, not %d, %v", scope, depth, i, v, ok, want, has)
				}
			}
		}
	}
	for f, want := range functions {
		if n, scope, ok := impl.FunOf(s, f); !ok || n != want[0] || scope != want[1] {
			t.Errorf("FunOf of %d is %d, %d, %v, not %v", f, n, scope, ok, want)
		}
	}
}

// wantNoHeap: of a slab that is no heap, or has no words, each function of the chapter gives back nothing.
func wantNoHeap(t *testing.T, what string, s impl.Slab, scope, depth, i, v int) {
	t.Helper()
	if got, made, ok := impl.ScopeNew(s, scope, i); ok || made != impl.VUndef || len(got.Words) != 0 {
		t.Errorf("%s: ScopeNew of %d, %d is %v, %d, %v", what, scope, i, got, made, ok)
	}
	if out, ok := impl.ScopeAt(s, scope, depth); ok || out != impl.VUndef {
		t.Errorf("%s: ScopeAt of %d, %d is %d, %v", what, scope, depth, out, ok)
	}
	if got, ok := impl.VarGet(s, scope, depth, i); ok || got != impl.VUndef {
		t.Errorf("%s: VarGet of %d, %d, %d is %d, %v", what, scope, depth, i, got, ok)
	}
	if got, ok := impl.VarSet(s, scope, depth, i, v); ok || len(got.Words) != 0 {
		t.Errorf("%s: VarSet of %d, %d, %d, %d is %v, %v", what, scope, depth, i, v, got, ok)
	}
	if got, made, ok := impl.FunNew(s, i, scope); ok || made != impl.VUndef || len(got.Words) != 0 {
		t.Errorf("%s: FunNew of %d, %d is %v, %d, %v", what, i, scope, got, made, ok)
	}
	if n, out, ok := impl.FunOf(s, v); ok || n != -1 || out != impl.VUndef {
		t.Errorf("%s: FunOf of %d is %d, %d, %v", what, v, n, out, ok)
	}
}

func TestP21ScopesOfWrongHeaps(t *testing.T) {
	wrong := wrongHeaps()
	right := wholeHeap()
	right.Words = append(right.Words, heapOf(holding(impl.BkFree, 0, 0, 0, 0, 0)).Words...)
	// One word that nobody asks for makes the whole heap wrong.
	for at, w := range map[int]int{atFun + 1: 100, atFar + 3: 1, atAlone + 1: impl.VNull, atScope + 9: ref(impl.VInner, atAlone), atChild + 3: 1, atBytes + 2: 256, atNext + 3: ref(impl.VInner, atObj), atFree: 0} {
		s := impl.Slab{Words: slices.Clone(right.Words)}
		s.Words[at] = w
		wrong["whole, wrong at "+strconv.Itoa(at)] = s
	}
	ends := []int{math.MinInt, math.MaxInt, 0}
	for what, s := range wrong {
		s = withRoom(s)
		before := wholeOf(s)
		wantNoHeap(t, what, s, ref(impl.VInner, atScope), 0, 1, ref(impl.VFun, atFun))
		wantNoHeap(t, what, s, ref(impl.VInner, atScope), 1, 0, ref(impl.VFun, atFar))
		wantNoHeap(t, what, s, ref(impl.VInner, 0), 0, 0, ref(impl.VFun, 0))
		for _, scope := range ends {
			for _, depth := range ends {
				for _, i := range ends {
					wantNoHeap(t, what, s, scope, depth, i, scope)
					wantNoHeap(t, what, s, scope, depth, i, i)
				}
			}
		}
		spoilCopy(t, s, before, impl.Slab{})
	}
}

// A slab of no words is a heap without room: there is nothing in it, and nothing gets in.
func TestP21ScopesNoWords(t *testing.T) {
	for what, s := range map[string]impl.Slab{"nil": {}, "no words": {Words: []int{}}} {
		for _, v := range append(edgeNumbers(), impl.VUndef, impl.VNull, math.MinInt, math.MaxInt) {
			wantNoHeap(t, what, s, v, 0, 0, impl.VNull)
			wantNoHeap(t, what, s, impl.VUndef, v, v, ref(impl.VFun, 0))
			wantNoHeap(t, what, s, ref(impl.VInner, 0), 0, 0, v)
			wantNoHeap(t, what, s, ref(impl.VInner, 0), v, 0, v)
			wantNoHeap(t, what, s, v, v, v, v)
		}
	}
}

// Each function at the ends of int, and with arguments that are right: nothing that was handed in is changed, and what is handed back may be.
func TestP21Scopes(t *testing.T) {
	plain := wholeHeap()
	plain.Words = append(plain.Words, heapOf(holding(impl.BkFree, 4, 4, 4, 4, 4)).Words...)
	for what, c := range map[string]struct {
		s      impl.Slab
		values []int
	}{
		"whole": {plain, []int{impl.VUndef, impl.VNull, ref(impl.VInner, atScope), ref(impl.VInner, atAlone), ref(impl.VInner, atCell), ref(impl.VFun, atFun), ref(impl.VFun, atFar), ref(impl.VText, atKey)}},
		"ring":  {ring(3, 1), []int{impl.VUndef, ref(impl.VInner, 0), ref(impl.VInner, 4), ref(impl.VFun, 14), ref(impl.VText, 12)}},
	} {
		s := withRoom(c.s)
		before := wholeOf(s)
		ends := []int{math.MinInt, math.MinInt + 1, -1, 0, 1, 12, 13, 99, 100, math.MaxInt - 1, math.MaxInt}
		for _, one := range append(c.values, ends...) {
			impl.FunOf(s, one)
			for _, n := range ends {
				impl.ScopeAt(s, one, n)
				got, _, _ := impl.ScopeNew(s, one, n)
				spoilCopy(t, s, before, got)
				got, _, _ = impl.FunNew(s, n, one)
				spoilCopy(t, s, before, got)
				for _, i := range ends {
					impl.VarGet(s, one, n, i)
					for _, v := range append(c.values, math.MinInt, math.MaxInt) {
						got, ok := impl.VarSet(s, one, n, i, v)
						if !ok && !sameWords(got, s) {
							t.Errorf("%s: VarSet of %d, %d, %d, %d: %v", what, one, n, i, v, got)
						}
						spoilCopy(t, s, before, got)
					}
				}
			}
		}
	}
}

// What one call has handed back is not what the next one hands back.
func TestP21ScopesKeepNothing(t *testing.T) {
	h := houseOf(t)
	one, _, _ := impl.ScopeNew(h.s, h.nook, 4)
	keep := slices.Clone(one.Words)
	spoil(one)
	two, v, ok := impl.ScopeNew(h.s, h.nook, 4)
	if !ok || !slices.Equal(two.Words, keep) {
		t.Errorf("ScopeNew after its answer was spoilt: %v, %d, %v", two, v, ok)
	}
	one, _ = impl.VarSet(h.s, h.nook, 3, 0, h.key)
	keep = slices.Clone(one.Words)
	spoil(one)
	if two, ok := impl.VarSet(h.s, h.nook, 3, 0, h.key); !ok || !slices.Equal(two.Words, keep) {
		t.Errorf("VarSet after its answer was spoilt: %v, %v", two, ok)
	}
	one, _, _ = impl.FunNew(h.s, 5, h.nook)
	keep = slices.Clone(one.Words)
	spoil(one)
	if two, f, ok := impl.FunNew(h.s, 5, h.nook); !ok || !slices.Equal(two.Words, keep) {
		t.Errorf("FunNew after its answer was spoilt: %v, %d, %v", two, f, ok)
	}
}
