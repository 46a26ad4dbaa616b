package tests

import (
	"strings"
	"testing"

	"loop.example/g00242/impl"
)

// wrongHeaps: slabs that are no slabs, and one that is a slab and no heap.
func wrongHeaps() map[string]impl.Slab {
	wrong := wrongSlabs()
	wrong["a text of a byte 256"] = heapOf(holding(impl.BkText, 1, 256), holding(impl.BkFree, 0, 0, 0, 0, 0, 0, 0))
	return wrong
}

func TestTextPut(t *testing.T) {
	s, _ := impl.SlabNew(12)
	for _, c := range []struct {
		text string
		at   int
		ok   bool
		want impl.Slab
	}{
		{"ab", 0, true, heapOf(holding(impl.BkText, 2, 'a', 'b'), holding(impl.BkFree, 0, 0, 0, 0, 0, 0, 0))},
		{"", 4, true, heapOf(holding(impl.BkText, 2, 'a', 'b'), holding(impl.BkText, 0), holding(impl.BkFree, 0, 0, 0, 0, 0))},
		{"ab", 0, true, heapOf(holding(impl.BkText, 2, 'a', 'b'), holding(impl.BkText, 0), holding(impl.BkFree, 0, 0, 0, 0, 0))},
		{"\x00\xff", 6, true, heapOf(holding(impl.BkText, 2, 'a', 'b'), holding(impl.BkText, 0), holding(impl.BkText, 2, 0, 255), holding(impl.BkFree, 0))},
		{"a", 0, false, heapOf(holding(impl.BkText, 2, 'a', 'b'), holding(impl.BkText, 0), holding(impl.BkText, 2, 0, 255), holding(impl.BkFree, 0))},
	} {
		before := wholeOf(s)
		got, v, ok := impl.TextPut(s, c.text)
		want := impl.VUndef
		if c.ok {
			want = ref(impl.VText, c.at)
		}
		if v != want || ok != c.ok || !sameWords(got, c.want) {
			t.Errorf("TextPut of %q: %v, %d, %v", c.text, got, v, ok)
		}
		if found, there := impl.TextFind(got, c.text); found != want || there != c.ok {
			t.Errorf("TextFind of %q: %d, %v", c.text, found, there)
		}
		spoilCopy(t, s, before, got)
		s = c.want
	}
}

// spoilCopy writes into what was handed back, and asks whether that is seen in what was handed in.
func spoilCopy(t *testing.T, s impl.Slab, before []int, got impl.Slab) {
	t.Helper()
	spoil(got)
	if after := wholeOf(s); !sameWords(impl.Slab{Words: after}, impl.Slab{Words: before}) {
		t.Errorf("words that were handed in are changed: %v", after)
	}
}

func TestTextPutLimits(t *testing.T) {
	s, _ := impl.SlabNew(100)
	most := strings.Repeat("x", impl.MaxText)
	if got, v, ok := impl.TextPut(s, most); !ok || v != ref(impl.VText, 0) || impl.SizeAt(got, 0) != 32 || !impl.HeapOk(got) {
		t.Errorf("a text of MaxText bytes: %d, %v", v, ok)
	}
	if got, v, ok := impl.TextPut(s, most+"x"); ok || v != impl.VUndef || !sameWords(got, s) {
		t.Errorf("a text of one byte more: %d, %v", v, ok)
	}
	// The first of two alike is told, and words more than needed are no bytes.
	two := heapOf(holding(impl.BkText, 0, 0), holding(impl.BkText, 1, 'a', 0, 0), holding(impl.BkText, 1, 'a'))
	if v, ok := impl.TextFind(two, "a"); !ok || v != ref(impl.VText, 3) {
		t.Errorf("the first of two: %d, %v", v, ok)
	}
	if v, ok := impl.TextFind(two, "a\x00"); ok || v != impl.VUndef {
		t.Errorf("spare words as bytes: %d, %v", v, ok)
	}
	for name, s := range wrongHeaps() {
		if got, v, ok := impl.TextPut(s, "a"); ok || v != impl.VUndef || len(got.Words) != 0 {
			t.Errorf("%s: TextPut is %v, %d, %v", name, got, v, ok)
		}
		if v, ok := impl.TextFind(s, "a"); ok || v != impl.VUndef {
			t.Errorf("%s: TextFind is %d, %v", name, v, ok)
		}
	}
}
