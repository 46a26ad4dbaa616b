package tests

import (
	"math"
	"slices"
	"testing"

	"loop.example/g00242/impl"
)

func TestScopeNew(t *testing.T) {
	s, _ := impl.SlabNew(20)
	one, v, ok := impl.ScopeNew(s, impl.VUndef, 0)
	if !ok || v != ref(impl.VInner, 0) || impl.SizeAt(one, 0) != 2 || impl.KindAt(one, 0) != impl.BkScope || one.Words[1] != impl.VUndef {
		t.Fatalf("a scope of none: %v, %d, %v", one, v, ok)
	}
	two, w, ok := impl.ScopeNew(one, v, impl.MaxVars)
	if !ok || w != ref(impl.VInner, 2) || impl.SizeAt(two, 2) != 14 || two.Words[3] != v || !impl.HeapOk(two) {
		t.Fatalf("a scope of MaxVars: %v, %d, %v", two, w, ok)
	}
	for _, n := range []int{-1, impl.MaxVars + 1, math.MinInt, math.MaxInt} {
		if got, v, ok := impl.ScopeNew(s, impl.VUndef, n); ok || v != impl.VUndef || !sameWords(got, s) {
			t.Errorf("a scope of %d: %v, %d, %v", n, got, v, ok)
		}
	}
	for _, up := range []int{impl.VNull, ref(impl.VInner, 1), ref(impl.VInner, 16), ref(impl.VObj, 0), 8, math.MinInt, math.MaxInt} {
		if got, v, ok := impl.ScopeNew(two, up, 1); ok || v != impl.VUndef || !sameWords(got, two) {
			t.Errorf("a scope within %d: %v, %d, %v", up, got, v, ok)
		}
	}
	if got, v, ok := impl.ScopeNew(two, v, 3); ok || v != impl.VUndef || !sameWords(got, two) {
		t.Errorf("no room: %v, %d, %v", got, v, ok)
	}
	for name, s := range wrongHeaps() {
		if got, v, ok := impl.ScopeNew(s, impl.VUndef, 0); ok || v != impl.VUndef || len(got.Words) != 0 {
			t.Errorf("%s: %v, %d, %v", name, got, v, ok)
		}
	}
}

func TestVarSet(t *testing.T) {
	// Three scopes, one within the other, of 2, 0 and 1 values.
	s := heapOf(holding(impl.BkScope, impl.VUndef, 1, 1), holding(impl.BkScope, ref(impl.VInner, 0)), holding(impl.BkScope, ref(impl.VInner, 4), 1), holding(impl.BkFree, 0))
	inner := ref(impl.VInner, 6)
	for _, c := range []struct {
		depth, i, at int
	}{
		{0, 0, 8}, {2, 0, 2}, {2, 1, 3},
	} {
		before := wholeOf(s)
		got, ok := impl.VarSet(s, inner, c.depth, c.i, impl.IntOf(5))
		want := impl.Slab{Words: slices.Clone(s.Words)}
		want.Words[c.at] = impl.IntOf(5)
		if !ok || !sameWords(got, want) {
			t.Errorf("depth %d, place %d: %v, %v", c.depth, c.i, got, ok)
		}
		spoilCopy(t, s, before, got)
	}
	for _, c := range [][4]int{
		{inner, 0, 1, 1}, {inner, 0, -1, 1}, {inner, 1, 0, 1}, {inner, 2, 2, 1}, {inner, 3, 0, 1}, {inner, -1, 0, 1},
		{inner, math.MaxInt, 0, 1}, {inner, math.MinInt, 0, 1}, {inner, 0, math.MaxInt, 1}, {inner, 0, math.MinInt, 1},
		{inner, 0, 0, inner}, {inner, 0, 0, 8}, {inner, 0, 0, ref(impl.VText, 0)}, {inner, 0, 0, math.MaxInt},
		{impl.VUndef, 0, 0, 1}, {ref(impl.VInner, 9), 0, 0, 1}, {ref(impl.VObj, 0), 0, 0, 1}, {math.MinInt, 0, 0, 1},
	} {
		if got, ok := impl.VarSet(s, c[0], c[1], c[2], c[3]); ok || !sameWords(got, s) {
			t.Errorf("VarSet of %v: %v, %v", c, got, ok)
		}
	}
	for name, s := range wrongHeaps() {
		if got, ok := impl.VarSet(s, ref(impl.VInner, 0), 0, 0, 1); ok || len(got.Words) != 0 {
			t.Errorf("%s: %v, %v", name, got, ok)
		}
	}
}

// Scopes that go in a circle have one at any depth: the first leads to a second and a third, and that back to the second.
func TestVarSetInACircle(t *testing.T) {
	s := heapOf(holding(impl.BkScope, ref(impl.VInner, 3), 1), holding(impl.BkScope, ref(impl.VInner, 6), 1), holding(impl.BkScope, ref(impl.VInner, 3), 1))
	for depth, at := range map[int]int{0: 2, 1: 5, 2: 8, 3: 5, 4: 8, 1000: 8, 1001: 5, math.MaxInt: 5, math.MaxInt - 1: 8} {
		got, ok := impl.VarSet(s, ref(impl.VInner, 0), depth, 0, impl.VUndef)
		if !ok || got.Words[at] != impl.VUndef {
			t.Errorf("depth %d: %v, %v", depth, got, ok)
		}
	}
}
