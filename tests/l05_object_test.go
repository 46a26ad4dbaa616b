package tests

import (
	"math"
	"testing"

	"loop.example/g00242/impl"
)

func TestObjNew(t *testing.T) {
	s := heapOf(holding(impl.BkText, 0), holding(impl.BkFree, 9, 9, 9, 9, 9, 9))
	one, v, ok := impl.ObjNew(s, impl.VNull)
	if !ok || v != ref(impl.VObj, 2) || !sameWords(one, heapOf(holding(impl.BkText, 0), holding(impl.BkObj, impl.VNull, impl.VUndef), holding(impl.BkFree, 9, 9, 9))) {
		t.Fatalf("an object: %v, %d, %v", one, v, ok)
	}
	two, w, ok := impl.ObjNew(one, v)
	want := heapOf(holding(impl.BkText, 0), holding(impl.BkObj, impl.VNull, impl.VUndef), holding(impl.BkObj, v, impl.VUndef, 0))
	if !ok || w != ref(impl.VObj, 5) || !sameWords(two, want) {
		t.Errorf("an object with a prototype: %v, %d, %v", two, w, ok)
	}
	if got, v, ok := impl.ObjNew(two, impl.VNull); ok || v != impl.VUndef || !sameWords(got, two) {
		t.Errorf("no room: %v, %d, %v", got, v, ok)
	}
	for _, proto := range []int{impl.VUndef, impl.BoolOf(false), impl.IntOf(1), ref(impl.VText, 0), ref(impl.VObj, 0), ref(impl.VObj, 3), ref(impl.VInner, 2), 9, math.MinInt, math.MaxInt} {
		if got, v, ok := impl.ObjNew(one, proto); ok || v != impl.VUndef || !sameWords(got, one) {
			t.Errorf("the prototype %d: %v, %d, %v", proto, got, v, ok)
		}
	}
	for name, s := range wrongHeaps() {
		if got, v, ok := impl.ObjNew(s, impl.VNull); ok || v != impl.VUndef || len(got.Words) != 0 {
			t.Errorf("%s: %v, %d, %v", name, got, v, ok)
		}
	}
}

func TestPropSet(t *testing.T) {
	name, other, obj := ref(impl.VText, 0), ref(impl.VText, 2), ref(impl.VObj, 5)
	texts := []body{holding(impl.BkText, 0), holding(impl.BkText, 1, 'a')}
	with := func(bodies ...body) impl.Slab { return heapOf(append(texts[:2:2], bodies...)...) }
	s := with(holding(impl.BkObj, impl.VNull, impl.VUndef), holding(impl.BkFree, 0, 0, 0, 0, 0, 0, 0, 0))
	for _, c := range []struct {
		name, v int
		ok      bool
		want    impl.Slab
	}{
		{name, 11, true, with(holding(impl.BkObj, impl.VNull, ref(impl.VInner, 8)), holding(impl.BkCell, name, 11, impl.VUndef), holding(impl.BkFree, 0, 0, 0, 0))},
		{name, obj, true, with(holding(impl.BkObj, impl.VNull, ref(impl.VInner, 8)), holding(impl.BkCell, name, obj, impl.VUndef), holding(impl.BkFree, 0, 0, 0, 0))},
		{other, name, true, with(holding(impl.BkObj, impl.VNull, ref(impl.VInner, 8)), holding(impl.BkCell, name, obj, ref(impl.VInner, 12)), holding(impl.BkCell, other, name, impl.VUndef, 0))},
		{other, impl.VNull, true, with(holding(impl.BkObj, impl.VNull, ref(impl.VInner, 8)), holding(impl.BkCell, name, obj, ref(impl.VInner, 12)), holding(impl.BkCell, other, impl.VNull, impl.VUndef, 0))},
	} {
		before := wholeOf(s)
		got, ok := impl.PropSet(s, obj, c.name, c.v)
		if ok != c.ok || !sameWords(got, c.want) {
			t.Errorf("%d for %d: %v, %v", c.v, c.name, got, ok)
		}
		spoilCopy(t, s, before, got)
		s = c.want
	}
}

func TestPropSetOthers(t *testing.T) {
	s := wholeHeap()
	obj, name, v := ref(impl.VObj, atObj), ref(impl.VText, atKey), impl.IntOf(1)
	if got, ok := impl.PropSet(s, obj, name, v); !ok || got.Words[atCell+2] != v {
		t.Errorf("a cell that is there: %v, %v", got, ok)
	}
	for _, c := range [][3]int{
		{obj, ref(impl.VText, atBytes), v}, // a new cell, and no room
		{ref(impl.VObj, atCell), name, v},
		{ref(impl.VFun, atFun), name, v},
		{impl.VNull, name, v},
		{math.MaxInt, name, v},
		{obj, impl.VUndef, v},
		{obj, obj, v},
		{obj, ref(impl.VText, atObj), v},
		{obj, math.MinInt, v},
		{obj, name, ref(impl.VInner, atScope)},
		{obj, name, ref(impl.VInner, atCell)},
		{obj, name, ref(impl.VText, 1999)},
		{obj, name, 8},
		{obj, name, math.MaxInt},
	} {
		if got, ok := impl.PropSet(s, c[0], c[1], c[2]); ok || !sameWords(got, s) {
			t.Errorf("PropSet of %v: %v, %v", c, got, ok)
		}
	}
	round := wholeHeap()
	round.Words[atNext+3] = ref(impl.VInner, atCell)
	if got, ok := impl.PropSet(round, obj, ref(impl.VText, atBytes), v); ok || !sameWords(got, round) {
		t.Errorf("cells in a circle: %v, %v", got, ok)
	}
	for name, s := range wrongHeaps() {
		if got, ok := impl.PropSet(s, ref(impl.VObj, 0), ref(impl.VText, 0), impl.VNull); ok || len(got.Words) != 0 {
			t.Errorf("%s: %v, %v", name, got, ok)
		}
	}
}
