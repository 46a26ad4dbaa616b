package tests

import (
	"math"
	"slices"
	"testing"

	"loop.example/g00242/impl"
)

// body: a block as the tests lay it, word by word behind the first one, which is made of the kind and how many there are.
type body struct {
	kind  int
	words []int
}

func holding(kind int, words ...int) body { return body{kind, words} }

func heapOf(bodies ...body) impl.Slab {
	var words []int
	for _, b := range bodies {
		words = append(words, 8*(len(b.words)+1)+b.kind)
		words = append(words, b.words...)
	}
	return impl.Slab{Words: words}
}

// ref makes the word by the chapter's rule, so that places which RefOf refuses can be told too.
func ref(kind, at int) int { return 8*at + kind }

// Where the blocks of wholeHeap lie.
const (
	atKey    = 0
	atEmpty  = 5
	atBytes  = 7
	atObj    = 13
	atChild  = 16
	atCell   = 20
	atNext   = 24
	atFun    = 29
	atFar    = 32
	atAlone  = 36
	atScope  = 38
	atFree   = 48
	atEnd    = 51
	theLeast = -2147483648
)

// wholeHeap has blocks of every kind, whose values lead to one another, with as many words as they need and with more.
func wholeHeap() impl.Slab {
	return heapOf(
		holding(impl.BkText, 3, 'k', 'e', 'y'),
		holding(impl.BkText, 0),
		holding(impl.BkText, 2, 0, 255, 0, 0),
		holding(impl.BkObj, impl.VNull, ref(impl.VInner, atCell)),
		holding(impl.BkObj, ref(impl.VObj, atObj), impl.VUndef, 0),
		holding(impl.BkCell, ref(impl.VText, atKey), ref(impl.VObj, atChild), ref(impl.VInner, atNext)),
		holding(impl.BkCell, ref(impl.VText, atEmpty), impl.IntOf(-7), impl.VUndef, 0),
		holding(impl.BkFun, 0, ref(impl.VInner, atAlone)),
		holding(impl.BkFun, 99, ref(impl.VInner, atScope), 0),
		holding(impl.BkScope, impl.VUndef),
		holding(impl.BkScope, ref(impl.VInner, atAlone), impl.VUndef, impl.VNull, impl.BoolOf(true), impl.IntOf(theLeast),
			ref(impl.VText, atBytes), ref(impl.VObj, atObj), ref(impl.VFun, atFun), ref(impl.VFun, atFar)),
		holding(impl.BkFree, math.MinInt, 77),
	)
}

// sight: what the chapter's words say of a slab, worked out by themselves.
type sight struct {
	words  []int
	places []int
	sizes  []int
	kinds  []int
	ok     bool
}

func sightOf(s impl.Slab) sight {
	places, sizes, kinds, ok := wantBlocks(s)
	return sight{s.Words, places, sizes, kinds, ok}
}

// leadsTo: the word is a value of that kind with the place of a block of that other kind.
func (g sight) leadsTo(word, kind, block int) bool {
	i := slices.Index(g.places, wantNum(word))
	return leftOver(word, 8) == kind && i >= 0 && g.kinds[i] == block
}

func (g sight) plainValue(word int) bool {
	switch leftOver(word, 8) {
	case 4:
		return g.leadsTo(word, 4, impl.BkText)
	case 5:
		return g.leadsTo(word, 5, impl.BkObj)
	case 6:
		return g.leadsTo(word, 6, impl.BkFun)
	case 7:
		return false
	}
	return wantOk(word)
}

func (g sight) root(word int) bool { return g.plainValue(word) || g.leadsTo(word, 7, impl.BkScope) }

func (g sight) cellLink(word int) bool { return word == 0 || g.leadsTo(word, 7, impl.BkCell) }

func (g sight) shape(at int) bool {
	i := slices.Index(g.places, at)
	if i < 0 {
		return false
	}
	w := g.words[at : at+g.sizes[i]]
	spare := func(needed int) bool {
		return len(w) == needed || len(w) == needed+1 && w[needed] == 0
	}
	switch g.kinds[i] {
	case impl.BkText:
		return textShapeOk(w)
	case impl.BkObj:
		return spare(3) && (w[1] == 1 || g.leadsTo(w[1], 5, impl.BkObj)) && g.cellLink(w[2])
	case impl.BkCell:
		return spare(4) && g.leadsTo(w[1], 4, impl.BkText) && g.plainValue(w[2]) && g.cellLink(w[3])
	case impl.BkFun:
		return spare(3) && w[1] >= 0 && w[1] <= 99 && g.leadsTo(w[2], 7, impl.BkScope)
	case impl.BkScope:
		outer := w[1] == 0 || g.leadsTo(w[1], 7, impl.BkScope)
		return outer && !slices.ContainsFunc(w[2:], func(v int) bool { return !g.plainValue(v) })
	}
	return true
}

func textShapeOk(w []int) bool {
	if w[1] < 0 || w[1] > len(w)-2 {
		return false
	}
	for _, b := range w[2 : 2+w[1]] {
		if b < 0 || b > 255 {
			return false
		}
	}
	return !slices.ContainsFunc(w[2+w[1]:], func(v int) bool { return v != 0 })
}

func (g sight) heap() bool {
	return g.ok && !slices.ContainsFunc(g.places, func(at int) bool { return !g.shape(at) })
}

// slots of a block: those words that the chapter calls values, as far as the block goes.
func (g sight) slots(at int) []int {
	i := slices.Index(g.places, at)
	if i < 0 {
		return nil
	}
	numbers := map[int][]int{impl.BkObj: {1, 2}, impl.BkCell: {1, 2, 3}, impl.BkFun: {2}}[g.kinds[i]]
	if g.kinds[i] == impl.BkScope {
		for n := 1; n < g.sizes[i]; n++ {
			numbers = append(numbers, n)
		}
	}
	var out []int
	for _, n := range numbers {
		if n < g.sizes[i] {
			out = append(out, at+n)
		}
	}
	return out
}

// checkShapes holds what every function tells of a slab against sight, at each place of it and at those next to its ends.
func checkShapes(t *testing.T, name string, s impl.Slab) {
	t.Helper()
	g := sightOf(s)
	if got := impl.HeapOk(s); got != g.heap() {
		t.Errorf("%s: HeapOk is %v of %v", name, got, s)
	}
	if got := impl.RootsOk(s, nil); got != g.heap() {
		t.Errorf("%s: RootsOk without roots is %v of %v", name, got, s)
	}
	for at := -2; at < len(s.Words)+2; at++ {
		if got := impl.ShapeOk(s, at); got != g.shape(at) {
			t.Errorf("%s: ShapeOk at %d is %v of %v", name, at, got, s)
		}
		if got := impl.Slots(s, at); !slices.Equal(got, g.slots(at)) {
			t.Errorf("%s: Slots at %d are %v, not %v, of %v", name, at, got, g.slots(at), s)
		}
	}
}

// checkLeads: promise 3 itself, asked of the functions of the chapters ahead.
func checkLeads(t *testing.T, s impl.Slab) {
	t.Helper()
	goals := map[int][]int{
		impl.VText: {impl.BkText}, impl.VObj: {impl.BkObj}, impl.VFun: {impl.BkFun}, impl.VInner: {impl.BkCell, impl.BkScope},
	}
	for _, at := range impl.Blocks(s) {
		for _, place := range impl.Slots(s, at) {
			v := s.Words[place]
			if !impl.ValueOk(v) {
				t.Errorf("the word at %d is no value: %v", place, s)
			}
			if goal, has := goals[impl.Kind(v)]; has && !slices.Contains(goal, impl.KindAt(s, impl.Num(v))) {
				t.Errorf("the value at %d leads nowhere: %v", place, s)
			}
		}
	}
}

func TestP3WholeHeap(t *testing.T) {
	s := wholeHeap()
	places := []int{atKey, atEmpty, atBytes, atObj, atChild, atCell, atNext, atFun, atFar, atAlone, atScope, atFree}
	if !slices.Equal(impl.Blocks(s), places) || len(s.Words) != atEnd {
		t.Fatalf("the heap of the tests is not as they want it: %v", impl.Blocks(s))
	}
	if !impl.HeapOk(s) {
		t.Error("the heap is refused")
	}
	for _, at := range places {
		if !impl.ShapeOk(s, at) {
			t.Errorf("the block at %d is refused", at)
		}
	}
	checkShapes(t, "whole", s)
	checkLeads(t, s)
}

func TestP3Slots(t *testing.T) {
	s := wholeHeap()
	for at, want := range map[int][]int{
		atKey:     nil,
		atEmpty:   nil,
		atBytes:   nil,
		atObj:     {14, 15},
		atChild:   {17, 18},
		atCell:    {21, 22, 23},
		atNext:    {25, 26, 27},
		atFun:     {31},
		atFar:     {34},
		atAlone:   {37},
		atScope:   {39, 40, 41, 42, 43, 44, 45, 46, 47},
		atFree:    nil,
		atObj + 1: nil,
		atEnd:     nil,
		-1:        nil,
	} {
		if got := impl.Slots(s, at); !slices.Equal(got, want) {
			t.Errorf("Slots at %d are %v, not %v", at, got, want)
		}
	}
	// A slab whose shapes are not right still has places; none lies outside of its block.
	odd := heapOf(holding(impl.BkObj, 9), holding(impl.BkCell, 9), holding(impl.BkCell, 9, 9), holding(impl.BkFun, 9),
		holding(impl.BkObj, 9, 9, 9, 9, 9), holding(impl.BkFun, 9, 9, 9, 9), holding(impl.BkText, math.MaxInt, 9), holding(impl.BkText, math.MinInt, 9), holding(impl.BkObj, 9))
	for at, want := range map[int][]int{0: {1}, 2: {3}, 4: {5, 6}, 7: nil, 9: {10, 11}, 15: {17}, 20: nil, 23: nil, 26: {27}} {
		if got := impl.Slots(odd, at); !slices.Equal(got, want) {
			t.Errorf("Slots at %d of the odd slab are %v, not %v", at, got, want)
		}
	}
	checkShapes(t, "odd", odd)
}

// Blocks that are right or not by their own words alone.
func TestP3OwnWords(t *testing.T) {
	text := func(words ...int) body { return holding(impl.BkText, words...) }
	inner, name, outer := ref(impl.VInner, 0), ref(impl.VText, 0), ref(impl.VInner, 2)
	for _, c := range []struct {
		name string
		b    body
		want bool
	}{
		{"text of no bytes", text(0), true},
		{"text of no bytes, more words", text(0, 0, 0, 0), true},
		{"text that fills its words", text(3, 1, 2, 3), true},
		{"text with one word more", text(2, 1, 2, 0), true},
		{"text with many words more", text(1, 7, 0, 0, 0, 0, 0, 0, 0), true},
		{"text whose last byte is 0", text(2, 7, 0, 0), true},
		{"text of bytes 0 and 255", text(4, 0, 255, 0, 255), true},
		{"text of a byte 256", text(2, 255, 256), false},
		{"text of a byte -1", text(2, -1, 0), false},
		{"text of the greatest byte", text(1, math.MaxInt), false},
		{"text of the least byte", text(1, math.MinInt), false},
		{"text with one byte more than words", text(4, 1, 2, 3), false},
		{"text of one byte, no words", text(1), false},
		{"text as long as all words", text(5, 1, 2, 3), false},
		{"text of -1 bytes", text(-1, 0, 0), false},
		{"text of -2 bytes", text(-2), false},
		{"text of the most bytes", text(math.MaxInt, 1, 2), false},
		{"text of the least bytes", text(math.MinInt, 0, 0), false},
		{"text, the first word more is not 0", text(1, 7, 1, 0), false},
		{"text, the last word more is not 0", text(1, 7, 0, -1), false},
		{"text of no bytes, a word more is not 0", text(0, 255), false},

		{"object", holding(impl.BkObj, impl.VNull, impl.VUndef), true},
		{"object with one word more", holding(impl.BkObj, impl.VNull, impl.VUndef, 0), true},
		{"object, the word more is not 0", holding(impl.BkObj, impl.VNull, impl.VUndef, 1), false},
		{"object with two words more", holding(impl.BkObj, impl.VNull, impl.VUndef, 0, 0), false},
		{"object with one word fewer", holding(impl.BkObj, impl.VNull), false},
		{"object, VUndef for a prototype", holding(impl.BkObj, impl.VUndef, impl.VUndef), false},
		{"object, false for a prototype", holding(impl.BkObj, impl.BoolOf(false), impl.VUndef), false},
		{"object, VNull for a cell", holding(impl.BkObj, impl.VNull, impl.VNull), false},
		{"object, a null with a number", holding(impl.BkObj, 9, impl.VUndef), false},
		{"object, an undefined with a number", holding(impl.BkObj, impl.VNull, 8), false},

		{"cell", holding(impl.BkCell, name, impl.VUndef, impl.VUndef), true},
		{"cell of null", holding(impl.BkCell, name, impl.VNull, impl.VUndef), true},
		{"cell with one word more", holding(impl.BkCell, name, impl.VNull, impl.VUndef, 0), true},
		{"cell, the word more is not 0", holding(impl.BkCell, name, impl.VNull, impl.VUndef, -8), false},
		{"cell with two words more", holding(impl.BkCell, name, impl.VNull, impl.VUndef, 0, 0), false},
		{"cell with one word fewer", holding(impl.BkCell, name, impl.VNull), false},
		{"cell with two words fewer", holding(impl.BkCell, name), false},
		{"cell, VUndef for a name", holding(impl.BkCell, impl.VUndef, impl.VNull, impl.VUndef), false},
		{"cell, VNull for a name", holding(impl.BkCell, impl.VNull, impl.VNull, impl.VUndef), false},
		{"cell, VNull for the next", holding(impl.BkCell, name, impl.VNull, impl.VNull), false},
		{"cell, a scope for a value", holding(impl.BkCell, name, outer, impl.VUndef), false},
		{"cell, a scope for the next", holding(impl.BkCell, name, impl.VNull, outer), false},
		{"cell, an inner value for a name", holding(impl.BkCell, inner, impl.VNull, impl.VUndef), false},
		{"cell, a bool of 2", holding(impl.BkCell, name, ref(impl.VBool, 2), impl.VUndef), false},
		{"cell, a number too great", holding(impl.BkCell, name, ref(impl.VInt, 2147483648), impl.VUndef), false},
		{"cell, the greatest number", holding(impl.BkCell, name, ref(impl.VInt, 2147483647), impl.VUndef), true},
		{"cell, a number too small", holding(impl.BkCell, name, ref(impl.VInt, -2147483649), impl.VUndef), false},

		{"function 0", holding(impl.BkFun, 0, outer), true},
		{"function 99", holding(impl.BkFun, 99, outer), true},
		{"function 100", holding(impl.BkFun, 100, outer), false},
		{"function -1", holding(impl.BkFun, -1, outer), false},
		{"function of the most", holding(impl.BkFun, math.MaxInt, outer), false},
		{"function of the least", holding(impl.BkFun, math.MinInt, outer), false},
		{"function with one word more", holding(impl.BkFun, 5, outer, 0), true},
		{"function, the word more is not 0", holding(impl.BkFun, 5, outer, 3), false},
		{"function with two words more", holding(impl.BkFun, 5, outer, 0, 0), false},
		{"function with one word fewer", holding(impl.BkFun, 5), false},
		{"function without a scope", holding(impl.BkFun, 5, impl.VUndef), false},
		{"function, VNull for a scope", holding(impl.BkFun, 5, impl.VNull), false},

		{"scope without values", holding(impl.BkScope, impl.VUndef), true},
		{"scope in a scope", holding(impl.BkScope, outer), true},
		{"scope of undefined", holding(impl.BkScope, impl.VUndef, impl.VUndef, impl.VUndef), true},
		{"scope of 30 values", holding(impl.BkScope, append([]int{outer}, slices.Repeat([]int{impl.VNull}, 30)...)...), true},
		{"scope of a text", holding(impl.BkScope, impl.VUndef, name), true},
		{"scope, VNull for the outer one", holding(impl.BkScope, impl.VNull), false},
		{"scope, a text for the outer one", holding(impl.BkScope, name), false},
		{"scope, a scope among values", holding(impl.BkScope, impl.VUndef, outer), false},
		{"scope, a scope behind values", holding(impl.BkScope, outer, impl.VNull, outer), false},
		{"scope, a last word that is no value", holding(impl.BkScope, outer, impl.VNull, impl.VUndef, 16), false},

		{"free", holding(impl.BkFree, 0), true},
		{"free with anything", holding(impl.BkFree, math.MinInt, math.MaxInt, 8, 9, -1), true},
	} {
		// The text that is a name, and the scope, lie ahead of it; what stands behind is always right.
		s := heapOf(text(0), holding(impl.BkScope, impl.VUndef), c.b, holding(impl.BkFree, 5, 5))
		if got := impl.ShapeOk(s, 4); got != c.want {
			t.Errorf("%s: ShapeOk is %v", c.name, got)
		}
		if got := impl.HeapOk(s); got != c.want {
			t.Errorf("%s: HeapOk is %v", c.name, got)
		}
		if got := impl.RootsOk(s, nil); got != c.want {
			t.Errorf("%s: RootsOk is %v", c.name, got)
		}
		if !impl.ShapeOk(s, 0) || !impl.ShapeOk(s, 2) || !impl.ShapeOk(s, 4+len(c.b.words)+1) {
			t.Errorf("%s: the blocks beside it are refused", c.name)
		}
		checkShapes(t, c.name, s)
	}
}

// goalsOf are values of one kind that lead to each block of wholeHeap, to the middle of one, to its end, beyond it, and nowhere at all.
func goalsOf(kind int) []int {
	out := []int{ref(kind, -1), ref(kind, math.MinInt/8), ref(kind, math.MaxInt/8), ref(kind, 1999), ref(kind, 2000)}
	for at := 0; at < atEnd+3; at++ {
		out = append(out, ref(kind, at))
	}
	return out
}

// Each word of the whole heap becomes each value that leads somewhere, each edge of the kinds without a place, and each end of int.
func TestP3EachWordWrong(t *testing.T) {
	words := []int{
		0, 1, 2, 10, 8, 9, 18, -6, -7, -8, 3, 99, 100, 255, 256, -1,
		ref(impl.VInt, 2147483647), ref(impl.VInt, 2147483648), ref(impl.VInt, -2147483648), ref(impl.VInt, -2147483649),
		math.MinInt, math.MinInt + 1, math.MaxInt, math.MaxInt - 1,
	}
	for kind := impl.VText; kind <= impl.VInner; kind++ {
		words = append(words, goalsOf(kind)...)
	}
	whole, right, wrong := wholeHeap(), 0, 0
	for at := range whole.Words {
		for _, w := range words {
			s := impl.Slab{Words: slices.Clone(whole.Words)}
			s.Words[at] = w
			g := sightOf(s)
			if got := impl.HeapOk(s); got != g.heap() {
				t.Errorf("%d at %d: HeapOk is %v", w, at, got)
			}
			for _, b := range g.places {
				if got := impl.ShapeOk(s, b); got != g.shape(b) {
					t.Errorf("%d at %d: ShapeOk at %d is %v", w, at, b, got)
				}
			}
			if g.heap() {
				right++
				checkLeads(t, s)
			} else {
				wrong++
			}
		}
	}
	if right < 500 || wrong < 5000 {
		t.Errorf("%d heaps are right and %d wrong: too few to tell", right, wrong)
	}
}

// Where values of each kind may lead, slot by slot: to one kind of block alone.
func TestP3WhereValuesLead(t *testing.T) {
	whole := wholeHeap()
	for _, c := range []struct {
		name       string
		slot, kind int
		goals      []int
	}{
		{"a prototype", atObj + 1, impl.VObj, []int{atObj, atChild}},
		{"a first cell", atObj + 2, impl.VInner, []int{atCell, atNext}},
		{"a name", atCell + 1, impl.VText, []int{atKey, atEmpty, atBytes}},
		{"a cell's text", atCell + 2, impl.VText, []int{atKey, atEmpty, atBytes}},
		{"a cell's object", atCell + 2, impl.VObj, []int{atObj, atChild}},
		{"a cell's function", atCell + 2, impl.VFun, []int{atFun, atFar}},
		{"a cell's inner value", atCell + 2, impl.VInner, nil},
		{"a next cell", atCell + 3, impl.VInner, []int{atCell, atNext}},
		{"a function's scope", atFun + 2, impl.VInner, []int{atAlone, atScope}},
		{"an outer scope", atScope + 1, impl.VInner, []int{atAlone, atScope}},
		{"an outer scope of one without values", atAlone + 1, impl.VInner, []int{atAlone, atScope}},
		{"a scope's text", atScope + 2, impl.VText, []int{atKey, atEmpty, atBytes}},
		{"a scope's object", atScope + 5, impl.VObj, []int{atObj, atChild}},
		{"a scope's function", atScope + 9, impl.VFun, []int{atFun, atFar}},
		{"a scope's inner value", atScope + 2, impl.VInner, nil},
		{"a scope's last inner value", atScope + 9, impl.VInner, nil},
		{"a text for a prototype", atObj + 1, impl.VText, nil},
		{"a function for a prototype", atObj + 1, impl.VFun, nil},
		{"an object for a name", atCell + 1, impl.VObj, nil},
		{"an object for a next cell", atCell + 3, impl.VObj, nil},
		{"a function for a scope", atFun + 2, impl.VFun, nil},
		{"an object for an outer scope", atScope + 1, impl.VObj, nil},
	} {
		for _, v := range goalsOf(c.kind) {
			s := impl.Slab{Words: slices.Clone(whole.Words)}
			s.Words[c.slot] = v
			if got, want := impl.HeapOk(s), slices.Contains(c.goals, wantNum(v)); got != want {
				t.Errorf("%s that leads to %d: HeapOk is %v", c.name, wantNum(v), got)
			}
		}
	}
}

// The greatest slab: a value may lead to its last block, and not to its last word.
func TestP3GreatestSlab(t *testing.T) {
	for at, want := range map[int]bool{0: false, 1: false, 1997: false, 1998: true, 1999: false, 2000: false} {
		bodies := []body{holding(impl.BkScope, append([]int{impl.VUndef}, slices.Repeat([]int{impl.VNull}, 1996)...)...), holding(impl.BkText, 0)}
		bodies[0].words[1996] = ref(impl.VText, at)
		s := heapOf(bodies...)
		if len(s.Words) != 2000 || impl.HeapOk(s) != want || impl.ShapeOk(s, 0) != want || !impl.ShapeOk(s, 1998) {
			t.Errorf("a value that leads to %d of 2000 words: HeapOk is %v", at, impl.HeapOk(s))
		}
		if got := impl.Slots(s, 0); len(got) != 1997 || got[0] != 1 || got[1996] != 1997 {
			t.Errorf("%d slots", len(got))
		}
	}
}

// Prototypes, cells and scopes that lead to themselves or round are shaped as told.
func TestP3Circles(t *testing.T) {
	for name, s := range map[string]impl.Slab{
		"an object its own prototype": heapOf(holding(impl.BkObj, ref(impl.VObj, 0), impl.VUndef)),
		"a cell its own next":         heapOf(holding(impl.BkText, 0), holding(impl.BkCell, ref(impl.VText, 0), impl.VNull, ref(impl.VInner, 2))),
		"a scope within itself":       heapOf(holding(impl.BkScope, ref(impl.VInner, 0))),
		"two scopes":                  heapOf(holding(impl.BkScope, ref(impl.VInner, 2)), holding(impl.BkScope, ref(impl.VInner, 0))),
	} {
		if !impl.HeapOk(s) {
			t.Errorf("%s is refused", name)
		}
		checkShapes(t, name, s)
	}
}

func TestP3Roots(t *testing.T) {
	s := wholeHeap()
	g := sightOf(s)
	good := []int{
		impl.VUndef, impl.VNull, impl.BoolOf(true), impl.BoolOf(false), impl.IntOf(0), impl.IntOf(2147483647), impl.IntOf(theLeast),
		ref(impl.VText, atKey), ref(impl.VText, atEmpty), ref(impl.VObj, atObj), ref(impl.VObj, atChild),
		ref(impl.VFun, atFun), ref(impl.VFun, atFar), ref(impl.VInner, atAlone), ref(impl.VInner, atScope),
	}
	bad := []int{
		ref(impl.VInner, atCell), ref(impl.VInner, atNext), ref(impl.VInner, atObj), ref(impl.VInner, atFun), ref(impl.VInner, atFree),
		ref(impl.VText, atObj), ref(impl.VObj, atKey), ref(impl.VObj, atCell), ref(impl.VFun, atScope), ref(impl.VText, atFree),
		ref(impl.VObj, atObj+1), ref(impl.VText, atEnd-1), ref(impl.VText, atEnd), ref(impl.VText, 1999), ref(impl.VText, 2000), ref(impl.VObj, -1),
		8, 9, 18, -6, ref(impl.VInt, 2147483648), math.MinInt, math.MaxInt,
	}
	if !impl.RootsOk(s, nil) || !impl.RootsOk(s, []int{}) || !impl.RootsOk(s, good) {
		t.Error("good roots are refused")
	}
	for _, v := range good {
		if !impl.RootsOk(s, []int{v, v}) {
			t.Errorf("the root %d is refused", v)
		}
	}
	for _, v := range bad {
		for _, roots := range [][]int{{v}, append([]int{v}, good...), append(slices.Clone(good), v)} {
			if impl.RootsOk(s, roots) {
				t.Errorf("the root %d is taken, one of %d", v, len(roots))
			}
		}
	}
	for kind := range 8 {
		for _, v := range goalsOf(kind) {
			if got := impl.RootsOk(s, []int{v}); got != g.root(v) {
				t.Errorf("RootsOk of %d is %v", v, got)
			}
		}
	}
	s.Words[atFar+1] = 100
	if impl.RootsOk(s, good) || impl.RootsOk(s, nil) || impl.RootsOk(s, []int{ref(impl.VText, atKey)}) {
		t.Error("roots into a heap that is not right")
	}
}

// Heaps that are made by the functions of other chapters, a long walk: no value leads nowhere at any step.
func TestP3Walk(t *testing.T) {
	rnd := &dice{3}
	names := []string{"", "a", "b", "key", "\x00\xff", "abcdefghijklmnopqrstuvwxyz1234"}
	for _, size := range []int{2, 9, 40, 200, 2000} {
		s, _ := impl.SlabNew(size)
		values, scopes := []int{impl.VUndef, impl.VNull, impl.BoolOf(true), impl.IntOf(-3)}, []int{impl.VUndef}
		pick := func(list []int) int { return list[rnd.below(len(list))] }
		for range 300 {
			v, ok := 0, false
			switch rnd.below(5) {
			case 0:
				s, v, ok = impl.TextPut(s, names[rnd.below(len(names))])
			case 1:
				s, v, ok = impl.ObjNew(s, pick(values))
			case 2:
				s, _ = impl.PropSet(s, pick(values), pick(values), pick(values))
			case 3:
				var scope int
				var made bool
				if s, scope, made = impl.ScopeNew(s, pick(scopes), rnd.below(4)); made {
					scopes = append(scopes, scope)
				}
			case 4:
				s, _ = impl.VarSet(s, pick(scopes), rnd.below(3), rnd.below(3), pick(values))
			}
			if ok {
				values = append(values, v)
			}
			if len(s.Words) != size || !impl.HeapOk(s) || !impl.RootsOk(s, append(slices.Clone(values), scopes...)) {
				t.Fatalf("size %d: no heap, or roots that lead nowhere: %v", size, s)
			}
			checkLeads(t, s)
		}
	}
}

// Slabs that are no slabs: no place of them has a shape.
func TestP21WrongHeaps(t *testing.T) {
	roots := [][]int{nil, {}, {impl.VUndef}, {impl.VNull, impl.IntOf(4)}, {ref(impl.VText, 0)}, {math.MinInt}, {math.MaxInt}}
	for name, s := range wrongSlabs() {
		if impl.HeapOk(s) {
			t.Errorf("%s: HeapOk", name)
		}
		for _, r := range roots {
			if impl.RootsOk(s, r) {
				t.Errorf("%s: RootsOk of %v", name, r)
			}
		}
		for _, at := range []int{math.MinInt, math.MinInt + 1, -16, -1, 0, 1, 2, 3, 1998, 1999, 2000, 2001, math.MaxInt - 1, math.MaxInt} {
			if impl.ShapeOk(s, at) || len(impl.Slots(s, at)) != 0 {
				t.Errorf("%s: at %d ShapeOk %v, Slots %v", name, at, impl.ShapeOk(s, at), impl.Slots(s, at))
			}
		}
	}
}

func TestP21NoWords(t *testing.T) {
	for _, s := range []impl.Slab{{}, {Words: []int{}}} {
		if !impl.HeapOk(s) || !impl.RootsOk(s, nil) || !impl.RootsOk(s, []int{impl.VUndef, impl.VNull, impl.BoolOf(true), impl.IntOf(5)}) {
			t.Error("a slab of no words is refused")
		}
		for kind := impl.VText; kind <= impl.VInner; kind++ {
			if impl.RootsOk(s, []int{ref(kind, 0)}) {
				t.Errorf("a root of kind %d leads into a slab of no words", kind)
			}
		}
		for _, at := range []int{math.MinInt, -1, 0, 1, 1999, 2000, math.MaxInt} {
			if impl.ShapeOk(s, at) || len(impl.Slots(s, at)) != 0 {
				t.Errorf("a slab of no words has a block at %d", at)
			}
		}
	}
}

// Each function of chapter 3 at the ends of int and at slabs of all sorts: nothing panics, it answers as told, and nothing is written into what was handed in or behind it.
func TestP21Shapes(t *testing.T) {
	slabs := rightSlabs()
	for name, s := range wrongSlabs() {
		slabs["wrong, "+name] = s
	}
	slabs["whole"] = wholeHeap()
	for name, plain := range slabs {
		s := withRoom(plain)
		before := wholeOf(s)
		g := sightOf(s)
		for _, at := range []int{math.MinInt, math.MinInt + 1, -1, 0, 1, atObj, atCell, atScope, 1998, 1999, 2000, math.MaxInt - 1, math.MaxInt} {
			if impl.ShapeOk(s, at) != g.shape(at) {
				t.Errorf("%s: ShapeOk at %d is %v", name, at, impl.ShapeOk(s, at))
			}
			spoil(impl.Slab{Words: impl.Slots(s, at)})
			if got := impl.Slots(s, at); !slices.Equal(got, g.slots(at)) {
				t.Errorf("%s: Slots at %d are %v", name, at, got)
			}
			spare := withRoom(impl.Slab{Words: []int{at, impl.VNull, ref(impl.VObj, atObj)}})
			roots := wholeOf(spare)
			want := g.heap() && g.root(at) && g.root(spare.Words[2])
			if impl.RootsOk(s, spare.Words) != want {
				t.Errorf("%s: RootsOk of %v is not %v", name, spare.Words, want)
			}
			if !slices.Equal(wholeOf(spare), roots) {
				t.Errorf("%s: roots that were handed in are changed", name)
			}
		}
		if impl.HeapOk(s) != g.heap() || impl.RootsOk(s, nil) != g.heap() {
			t.Errorf("%s: HeapOk is %v", name, impl.HeapOk(s))
		}
		if !slices.Equal(wholeOf(s), before) {
			t.Errorf("%s: words that were handed in are changed", name)
		}
	}
}
