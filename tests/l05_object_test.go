package tests

import (
	"math"
	"slices"
	"strconv"
	"strings"
	"testing"

	"loop.example/g00242/impl"
)

// wantCells: the places of an object's cells in order, each once, in a heap that is right; and whether they go in a circle.
func wantCells(words []int, obj int) (places []int, round bool) {
	for link := words[wantNum(obj)+2]; link != impl.VUndef; link = words[wantNum(link)+3] {
		if slices.Contains(places, wantNum(link)) {
			return places, true
		}
		places = append(places, wantNum(link))
	}
	return places, false
}

func wantOwn(words []int, obj, name int) (int, bool) {
	places, _ := wantCells(words, obj)
	for _, at := range places {
		if words[at+1] == name {
			return words[at+2], true
		}
	}
	return impl.VUndef, false
}

// wantLine: the object, its prototype, and so on, each once.
func wantLine(words []int, obj int) []int {
	line := []int{obj}
	for {
		up := words[wantNum(line[len(line)-1])+1]
		if up == impl.VNull || slices.Contains(line, up) {
			return line
		}
		line = append(line, up)
	}
}

func wantLook(words []int, obj, name int) (int, bool) {
	for _, o := range wantLine(words, obj) {
		if v, ok := wantOwn(words, o, name); ok {
			return v, true
		}
	}
	return impl.VUndef, false
}

func wantNames(words []int, obj int) []string {
	places, round := wantCells(words, obj)
	if round {
		return nil
	}
	var names []string
	for _, at := range places {
		names = append(names, bytesOf(words, wantNum(words[at+1])))
	}
	return names
}

// wantTaken: the slab with a block of that body in the first room that is great enough, and its place.
func wantTaken(s impl.Slab, b body) (impl.Slab, int, bool) {
	places, sizes, kinds, _ := wantBlocks(s)
	need := len(b.words) + 1
	for i, at := range places {
		if kinds[i] != impl.BkFree || sizes[i] < need {
			continue
		}
		if sizes[i] == need+1 {
			b.words = append(slices.Clone(b.words), 0)
			need++
		}
		words := slices.Clone(s.Words)
		copy(words[at:], heapOf(b).Words)
		if left := sizes[i] - need; left > 0 {
			words[at+need] = 8 * left
		}
		return impl.Slab{Words: words}, at, true
	}
	return s, 0, false
}

func wantPropSet(s impl.Slab, obj, name, v int) (impl.Slab, bool) {
	places, round := wantCells(s.Words, obj)
	if round {
		return s, false
	}
	link := wantNum(obj) + 2
	for _, at := range places {
		if s.Words[at+1] == name {
			words := slices.Clone(s.Words)
			words[at+2] = v
			return impl.Slab{Words: words}, true
		}
		link = at + 3
	}
	with, at, ok := wantTaken(s, holding(impl.BkCell, name, v, impl.VUndef))
	if !ok {
		return s, false
	}
	with.Words[link] = ref(impl.VInner, at)
	return with, true
}

// valuesOf: values that lead to each block of that kind.
func valuesOf(s impl.Slab, block, kind int) []int {
	var out []int
	places, _, kinds, _ := wantBlocks(s)
	for i, at := range places {
		if kinds[i] == block {
			out = append(out, ref(kind, at))
		}
	}
	return out
}

func objectsOf(s impl.Slab) []int { return valuesOf(s, impl.BkObj, impl.VObj) }

func namesOf(s impl.Slab) []int { return valuesOf(s, impl.BkText, impl.VText) }

// checkObjects holds what Own, Look and Names tell of each object and each text of a heap against the tests' own reckoning.
func checkObjects(t *testing.T, what string, s impl.Slab) {
	t.Helper()
	for _, obj := range objectsOf(s) {
		for _, name := range namesOf(s) {
			want, has := wantOwn(s.Words, obj, name)
			if v, ok := impl.Own(s, obj, name); v != want || ok != has {
				t.Errorf("%s: Own of %d, %d is %d, %v, not %d, %v, in %v", what, obj, name, v, ok, want, has, s)
			}
			want, has = wantLook(s.Words, obj, name)
			if v, ok := impl.Look(s, obj, name); v != want || ok != has {
				t.Errorf("%s: Look of %d, %d is %d, %v, not %d, %v, in %v", what, obj, name, v, ok, want, has, s)
			}
		}
		if got, want := impl.Names(s, obj), wantNames(s.Words, obj); !slices.Equal(got, want) {
			t.Errorf("%s: Names of %d are %q, not %q, in %v", what, obj, got, want, s)
		}
	}
}

// checkSets does the same for what the others make of a heap: each object, each text, and some values of each kind.
func checkSets(t *testing.T, what string, s impl.Slab) {
	t.Helper()
	objects := objectsOf(s)
	for _, obj := range objects {
		for _, name := range namesOf(s) {
			for _, v := range []int{impl.VUndef, impl.BoolOf(true), impl.IntOf(-9), name, obj} {
				want, done := wantPropSet(s, obj, name, v)
				if got, ok := impl.PropSet(s, obj, name, v); ok != done || !sameWords(got, want) {
					t.Errorf("%s: PropSet of %d, %d, %d is %v, %v, not %v, %v", what, obj, name, v, got, ok, want, done)
				}
			}
		}
		for _, proto := range append([]int{impl.VNull}, objects...) {
			want := impl.Slab{Words: slices.Clone(s.Words)}
			want.Words[wantNum(obj)+1] = proto
			if got, ok := impl.ProtoSet(s, obj, proto); !ok || !sameWords(got, want) {
				t.Errorf("%s: ProtoSet of %d, %d is %v, %v", what, obj, proto, got, ok)
			}
		}
	}
	for _, proto := range append([]int{impl.VNull}, objects...) {
		want, at, done := wantTaken(s, holding(impl.BkObj, proto, impl.VUndef))
		value := impl.VUndef
		if done {
			value = ref(impl.VObj, at)
		}
		if got, v, ok := impl.ObjNew(s, proto); ok != done || v != value || !sameWords(got, want) {
			t.Errorf("%s: ObjNew of %d is %v, %d, %v", what, proto, got, v, ok)
		}
	}
}

func TestP5ObjNew(t *testing.T) {
	s := heapOf(holding(impl.BkText, 0), holding(impl.BkFree, 9, 9, 9, 9, 9, 9))
	one, v, ok := impl.ObjNew(s, impl.VNull)
	if !ok || v != ref(impl.VObj, 2) || !sameWords(one, heapOf(holding(impl.BkText, 0), holding(impl.BkObj, impl.VNull, impl.VUndef), holding(impl.BkFree, 9, 9, 9))) {
		t.Fatalf("an object: %v, %d, %v", one, v, ok)
	}
	if names := impl.Names(one, v); len(names) != 0 {
		t.Errorf("a new object has names: %q", names)
	}
	two, w, ok := impl.ObjNew(one, v)
	want := heapOf(holding(impl.BkText, 0), holding(impl.BkObj, impl.VNull, impl.VUndef), holding(impl.BkObj, v, impl.VUndef, 0))
	if !ok || w != ref(impl.VObj, 5) || !sameWords(two, want) {
		t.Errorf("an object with a prototype: %v, %d, %v", two, w, ok)
	}
	if got, v, ok := impl.ObjNew(two, impl.VNull); ok || v != impl.VUndef || !sameWords(got, two) {
		t.Errorf("no room: %v, %d, %v", got, v, ok)
	}
}

func TestP5PropSet(t *testing.T) {
	name, other, obj := ref(impl.VText, 0), ref(impl.VText, 2), ref(impl.VObj, 5)
	texts := []body{holding(impl.BkText, 0), holding(impl.BkText, 1, 'a')}
	with := func(bodies ...body) impl.Slab { return heapOf(append(texts[:2:2], bodies...)...) }
	s := with(holding(impl.BkObj, impl.VNull, impl.VUndef), holding(impl.BkFree, 0, 0, 0, 0, 0, 0, 0, 0))
	for _, c := range []struct {
		name, v int
		names   []string
		want    impl.Slab
	}{
		{name, 11, []string{""}, with(holding(impl.BkObj, impl.VNull, ref(impl.VInner, 8)), holding(impl.BkCell, name, 11, impl.VUndef), holding(impl.BkFree, 0, 0, 0, 0))},
		{name, obj, []string{""}, with(holding(impl.BkObj, impl.VNull, ref(impl.VInner, 8)), holding(impl.BkCell, name, obj, impl.VUndef), holding(impl.BkFree, 0, 0, 0, 0))},
		{other, name, []string{"", "a"}, with(holding(impl.BkObj, impl.VNull, ref(impl.VInner, 8)), holding(impl.BkCell, name, obj, ref(impl.VInner, 12)), holding(impl.BkCell, other, name, impl.VUndef, 0))},
		{other, impl.VNull, []string{"", "a"}, with(holding(impl.BkObj, impl.VNull, ref(impl.VInner, 8)), holding(impl.BkCell, name, obj, ref(impl.VInner, 12)), holding(impl.BkCell, other, impl.VNull, impl.VUndef, 0))},
		{name, impl.VUndef, []string{"", "a"}, with(holding(impl.BkObj, impl.VNull, ref(impl.VInner, 8)), holding(impl.BkCell, name, impl.VUndef, ref(impl.VInner, 12)), holding(impl.BkCell, other, impl.VNull, impl.VUndef, 0))},
	} {
		s = withRoom(s)
		before := wholeOf(s)
		got, ok := impl.PropSet(s, obj, c.name, c.v)
		if !ok || !sameWords(got, c.want) {
			t.Errorf("%d for %d: %v, %v", c.v, c.name, got, ok)
		}
		if v, ok := impl.Own(got, obj, c.name); !ok || v != c.v {
			t.Errorf("%d for %d: Own is %d, %v", c.v, c.name, v, ok)
		}
		if names := impl.Names(got, obj); !slices.Equal(names, c.names) {
			t.Errorf("%d for %d: Names are %q", c.v, c.name, names)
		}
		spoilCopy(t, s, before, got)
		s = c.want
	}
}

// family: objects one behind the other by their prototypes, and one beside them; with names of which some are theirs.
type family struct {
	s                           impl.Slab
	old, mid, young, alone      int
	age, home, hat, none, empty int
}

func mustText(t *testing.T, s impl.Slab, text string) (impl.Slab, int) {
	t.Helper()
	s, v, ok := impl.TextPut(s, text)
	if !ok {
		t.Fatalf("no room for %q", text)
	}
	return s, v
}

func mustObj(t *testing.T, s impl.Slab, proto int) (impl.Slab, int) {
	t.Helper()
	s, v, ok := impl.ObjNew(s, proto)
	if !ok {
		t.Fatal("no room for an object")
	}
	return s, v
}

func mustSet(t *testing.T, s impl.Slab, obj, name, v int) impl.Slab {
	t.Helper()
	s, ok := impl.PropSet(s, obj, name, v)
	if !ok {
		t.Fatalf("%d of %d is not set to %d", name, obj, v)
	}
	return s
}

func familyOf(t *testing.T) family {
	t.Helper()
	var f family
	f.s, _ = impl.SlabNew(120)
	f.s, f.age = mustText(t, f.s, "age")
	f.s, f.home = mustText(t, f.s, "home")
	f.s, f.old = mustObj(t, f.s, impl.VNull)
	f.s = mustSet(t, f.s, f.old, f.age, impl.IntOf(80))
	f.s, f.mid = mustObj(t, f.s, f.old)
	f.s = mustSet(t, f.s, f.old, f.home, impl.IntOf(1))
	f.s, f.hat = mustText(t, f.s, "hat")
	f.s, f.young = mustObj(t, f.s, f.mid)
	f.s, f.alone = mustObj(t, f.s, impl.VNull)
	f.s = mustSet(t, f.s, f.young, f.age, impl.IntOf(8))
	f.s = mustSet(t, f.s, f.alone, f.hat, impl.VNull)
	f.s = mustSet(t, f.s, f.mid, f.hat, f.age)
	f.s, f.none = mustText(t, f.s, "none")
	f.s, f.empty = mustText(t, f.s, "")
	return f
}

func TestP5Family(t *testing.T) {
	f := familyOf(t)
	const no = -1
	for _, c := range []struct {
		obj, name, own, look int
	}{
		{f.old, f.age, impl.IntOf(80), impl.IntOf(80)},
		{f.old, f.home, impl.IntOf(1), impl.IntOf(1)},
		{f.old, f.hat, no, no},
		{f.mid, f.age, no, impl.IntOf(80)},
		{f.mid, f.home, no, impl.IntOf(1)},
		{f.mid, f.hat, f.age, f.age},
		{f.young, f.age, impl.IntOf(8), impl.IntOf(8)},
		{f.young, f.home, no, impl.IntOf(1)},
		{f.young, f.hat, no, f.age},
		{f.young, f.none, no, no},
		{f.young, f.empty, no, no},
		{f.alone, f.hat, impl.VNull, impl.VNull},
		{f.alone, f.age, no, no},
	} {
		for what, ask := range map[string]struct {
			want int
			fun  func(impl.Slab, int, int) (int, bool)
		}{"Own": {c.own, impl.Own}, "Look": {c.look, impl.Look}} {
			want, has := ask.want, ask.want != no
			if !has {
				want = impl.VUndef
			}
			if v, ok := ask.fun(f.s, c.obj, c.name); v != want || ok != has {
				t.Errorf("%s of %q of %d is %d, %v", what, impl.TextOf(f.s, c.name), c.obj, v, ok)
			}
		}
	}
	for obj, want := range map[int][]string{f.old: {"age", "home"}, f.mid: {"hat"}, f.young: {"age"}, f.alone: {"hat"}} {
		if got := impl.Names(f.s, obj); !slices.Equal(got, want) {
			t.Errorf("Names of %d are %q, not %q", obj, got, want)
		}
	}
	checkObjects(t, "family", f.s)
	checkSets(t, "family", f.s)
}

// checkSeen: promise 5 itself: what was set is looked up, by the object and by all that see it; all other names stay.
func checkSeen(t *testing.T, s, set impl.Slab, obj, name, v int) {
	t.Helper()
	for _, o := range objectsOf(s) {
		for _, n := range namesOf(s) {
			own, has := impl.Own(s, o, n)
			if o == obj && n == name {
				own, has = v, true
			}
			if got, ok := impl.Own(set, o, n); got != own || ok != has {
				t.Errorf("%d of %d set to %d: Own of %d, %d is %d, %v, not %d, %v", name, obj, v, o, n, got, ok, own, has)
			}
			look, seen := impl.Look(s, o, n)
			if n == name && seesFirst(s, o, n, obj) {
				look, seen = v, true
			}
			if got, ok := impl.Look(set, o, n); got != look || ok != seen {
				t.Errorf("%d of %d set to %d: Look of %d, %d is %d, %v, not %d, %v", name, obj, v, o, n, got, ok, look, seen)
			}
		}
	}
}

// seesFirst: that object stands in the line of this one, and none ahead of it has the name.
func seesFirst(s impl.Slab, o, name, obj int) bool {
	for _, one := range wantLine(s.Words, o) {
		if one == obj {
			return true
		}
		if _, has := wantOwn(s.Words, one, name); has {
			return false
		}
	}
	return false
}

// Each name of each object of the family is set: one that it has, one that its prototype has, one that nobody has.
func TestP5SetIsSeen(t *testing.T) {
	f := familyOf(t)
	for _, obj := range objectsOf(f.s) {
		for _, name := range namesOf(f.s) {
			for _, v := range []int{impl.VUndef, impl.VNull, impl.BoolOf(false), impl.IntOf(80), name, obj, f.mid} {
				names := impl.Names(f.s, obj)
				if text := impl.TextOf(f.s, name); !slices.Contains(names, text) {
					names = append(names, text)
				}
				set := mustSet(t, f.s, obj, name, v)
				checkSeen(t, f.s, set, obj, name, v)
				if got := impl.Names(set, obj); !slices.Equal(got, names) {
					t.Errorf("%d of %d set: Names are %q, not %q", name, obj, got, names)
				}
				if !impl.HeapOk(set) {
					t.Errorf("%d of %d set to %d: no heap: %v", name, obj, v, set)
				}
			}
		}
	}
}

// Who gets another prototype sees what that one sees, and no more what the old one saw.
func TestP5ProtoSet(t *testing.T) {
	f := familyOf(t)
	for _, c := range []struct {
		obj, proto int
		age, hat   int
	}{
		{f.young, impl.VNull, impl.IntOf(8), impl.VUndef},
		{f.young, f.alone, impl.IntOf(8), impl.VNull},
		{f.mid, f.alone, impl.VUndef, f.age},
		{f.alone, f.young, impl.IntOf(8), impl.VNull},
		{f.alone, f.alone, impl.VUndef, impl.VNull},
		{f.old, f.young, impl.IntOf(80), f.age},
	} {
		s := withRoom(f.s)
		before := wholeOf(s)
		got, ok := impl.ProtoSet(s, c.obj, c.proto)
		if !ok || got.Words[impl.Num(c.obj)+1] != c.proto || !impl.HeapOk(got) {
			t.Errorf("%d for %d: %v, %v", c.proto, c.obj, got, ok)
		}
		if v, ok := impl.Look(got, c.obj, f.age); v != c.age || ok != (c.age != impl.VUndef) {
			t.Errorf("%d for %d: the age is %d, %v", c.proto, c.obj, v, ok)
		}
		if v, ok := impl.Look(got, c.obj, f.hat); v != c.hat || ok != (c.hat != impl.VUndef) {
			t.Errorf("%d for %d: the hat is %d, %v", c.proto, c.obj, v, ok)
		}
		if !slices.Equal(impl.Names(got, c.obj), impl.Names(f.s, c.obj)) {
			t.Errorf("%d for %d: Names are %q", c.proto, c.obj, impl.Names(got, c.obj))
		}
		checkObjects(t, "another prototype", got)
		spoilCopy(t, s, before, got)
	}
}

// What is behind a chain of prototypes is seen from each of them, as long as the slab goes.
func TestP5Chain(t *testing.T) {
	s, _ := impl.SlabNew(impl.MaxWords)
	s, far := mustText(t, s, "far")
	s, near := mustText(t, s, "near")
	s, first := mustObj(t, s, impl.VNull)
	s = mustSet(t, s, first, far, impl.IntOf(1))
	line := []int{first}
	for {
		with, obj, ok := impl.ObjNew(s, line[len(line)-1])
		if !ok {
			break
		}
		s, line = with, append(line, obj)
	}
	if len(line) < 650 {
		t.Fatalf("a chain of %d alone", len(line))
	}
	for i, obj := range line {
		v, ok := impl.Look(s, obj, far)
		_, own := impl.Own(s, obj, far)
		if !ok || v != impl.IntOf(1) || own != (i == 0) {
			t.Errorf("number %d: %d, %v, %v", i, v, ok, own)
		}
		if v, ok := impl.Look(s, obj, near); ok || v != impl.VUndef {
			t.Errorf("number %d sees what nobody has: %d", i, v)
		}
	}
	s, _ = impl.ProtoSet(s, line[300], impl.VNull)
	for i, obj := range line {
		if _, ok := impl.Look(s, obj, far); ok != (i < 300) {
			t.Errorf("number %d of a chain that is cut: %v", i, ok)
		}
	}
}

// Two cells with one name: the first one counts, wherever they stand.
func TestP5NameTwice(t *testing.T) {
	a, b, obj := ref(impl.VText, 0), ref(impl.VText, 3), ref(impl.VObj, 6)
	s := heapOf(
		holding(impl.BkText, 1, 'a'), holding(impl.BkText, 1, 'b'),
		holding(impl.BkObj, impl.VNull, ref(impl.VInner, 17)),
		holding(impl.BkCell, a, impl.IntOf(3), ref(impl.VInner, 13)), // second of a
		holding(impl.BkCell, b, impl.IntOf(4), impl.VUndef),          // second of b
		holding(impl.BkCell, a, impl.IntOf(1), ref(impl.VInner, 21)), // first of a
		holding(impl.BkCell, b, impl.IntOf(2), ref(impl.VInner, 9)),  // first of b
		holding(impl.BkFree, 0, 0, 0, 0, 0),
	)
	for name, want := range map[int]int{a: 1, b: 2} {
		if v, ok := impl.Own(s, obj, name); !ok || v != impl.IntOf(want) {
			t.Errorf("Own of %d: %d, %v", name, v, ok)
		}
		if v, ok := impl.Look(s, obj, name); !ok || v != impl.IntOf(want) {
			t.Errorf("Look of %d: %d, %v", name, v, ok)
		}
	}
	for name, at := range map[int]int{a: 17, b: 21} {
		want := impl.Slab{Words: slices.Clone(s.Words)}
		want.Words[at+2] = impl.VNull
		if got, ok := impl.PropSet(s, obj, name, impl.VNull); !ok || !sameWords(got, want) {
			t.Errorf("PropSet of %d: %v, %v", name, got, ok)
		}
	}
	if got := impl.Names(s, obj); !slices.Equal(got, []string{"a", "b", "a", "b"}) {
		t.Errorf("Names are %q", got)
	}
	checkSets(t, "names twice", s)
}

// Two text blocks with the same bytes are two names.
func TestP5TwinTexts(t *testing.T) {
	one, two, obj, low := ref(impl.VText, 0), ref(impl.VText, 3), ref(impl.VObj, 7), ref(impl.VObj, 14)
	s := heapOf(
		holding(impl.BkText, 1, 'a'), holding(impl.BkText, 1, 'a', 0),
		holding(impl.BkObj, impl.VNull, ref(impl.VInner, 10)),
		holding(impl.BkCell, two, impl.IntOf(2), impl.VUndef),
		holding(impl.BkObj, obj, impl.VUndef),
		holding(impl.BkFree, 0, 0, 0, 0, 0),
	)
	for _, o := range []int{obj, low} {
		if v, ok := impl.Look(s, o, one); ok || v != impl.VUndef {
			t.Errorf("the first of two texts is found: %d", v)
		}
		if v, ok := impl.Look(s, o, two); !ok || v != impl.IntOf(2) {
			t.Errorf("the second of two texts: %d, %v", v, ok)
		}
	}
	set := mustSet(t, s, obj, one, impl.IntOf(1))
	if got := impl.Names(set, obj); !slices.Equal(got, []string{"a", "a"}) {
		t.Errorf("Names are %q", got)
	}
	checkSeen(t, s, set, obj, one, impl.IntOf(1))
	for name, want := range map[int]int{one: 1, two: 2} {
		if v, ok := impl.Own(set, obj, name); !ok || v != impl.IntOf(want) {
			t.Errorf("Own of %d: %d, %v", name, v, ok)
		}
	}
	checkSets(t, "twins", s)
}

// circleOf: an object with so many cells, the last of which leads back to number back; each has a name of its own, and one more is there.
func circleOf(n, back, room int) (s impl.Slab, obj int, names []int) {
	var bodies []body
	for i := range n + 1 {
		names = append(names, ref(impl.VText, 3*i))
		bodies = append(bodies, holding(impl.BkText, 1, 'a'+i))
	}
	at := 3 * (n + 1)
	obj = ref(impl.VObj, at)
	bodies = append(bodies, holding(impl.BkObj, impl.VNull, ref(impl.VInner, at+3)))
	for i := range n {
		next := i + 1
		if next == n {
			next = back
		}
		bodies = append(bodies, holding(impl.BkCell, names[i], impl.IntOf(i), ref(impl.VInner, at+3+4*next)))
	}
	if room > 0 {
		bodies = append(bodies, holding(impl.BkFree, make([]int, room-1)...))
	}
	return heapOf(bodies...), obj, names
}

// Cells that go in a circle, at once and behind several others: each is looked at, none is set, whatever name and with whatever room.
func TestP5CellsInACircle(t *testing.T) {
	for n := 1; n <= 6; n++ {
		for back := range n {
			for _, room := range []int{0, 4, 20} {
				s, obj, names := circleOf(n, back, room)
				if !impl.HeapOk(s) {
					t.Fatalf("no heap: %v", s)
				}
				for i, name := range names[:n] {
					if v, ok := impl.Own(s, obj, name); !ok || v != impl.IntOf(i) {
						t.Errorf("%d cells back to %d: Own of number %d: %d, %v", n, back, i, v, ok)
					}
					if v, ok := impl.Look(s, obj, name); !ok || v != impl.IntOf(i) {
						t.Errorf("%d cells back to %d: Look of number %d: %d, %v", n, back, i, v, ok)
					}
					for _, v := range []int{impl.VNull, impl.IntOf(i), obj} {
						if got, ok := impl.PropSet(s, obj, name, v); ok || !sameWords(got, s) {
							t.Errorf("%d cells back to %d: PropSet of number %d to %d: %v, %v", n, back, i, v, got, ok)
						}
					}
				}
				if v, ok := impl.Own(s, obj, names[n]); ok || v != impl.VUndef {
					t.Errorf("%d cells back to %d: Own of what is not there: %d", n, back, v)
				}
				if got, ok := impl.PropSet(s, obj, names[n], impl.VNull); ok || !sameWords(got, s) {
					t.Errorf("%d cells back to %d: PropSet of what is not there: %v, %v", n, back, got, ok)
				}
				if got := impl.Names(s, obj); len(got) != 0 {
					t.Errorf("%d cells back to %d: Names are %q", n, back, got)
				}
				checkObjects(t, "a circle", s)
				checkSets(t, "a circle", s)
			}
		}
	}
}

// The same cells, the last of which leads on to none: each is set, with room and without; only a name that is not there needs room.
func TestP5CircleOpened(t *testing.T) {
	for n := 1; n <= 6; n++ {
		for back := range n {
			for _, room := range []int{0, 2, 3, 4, 20} {
				s, obj, names := circleOf(n, back, room)
				s.Words[impl.Num(obj)+3+4*(n-1)+3] = impl.VUndef
				for i, name := range names[:n] {
					want := impl.Slab{Words: slices.Clone(s.Words)}
					want.Words[impl.Num(obj)+3+4*i+2] = impl.VNull
					got, ok := impl.PropSet(s, obj, name, impl.VNull)
					if !ok || !sameWords(got, want) {
						t.Errorf("%d cells, %d words of room: PropSet of number %d: %v, %v", n, room, i, got, ok)
					}
					checkSeen(t, s, got, obj, name, impl.VNull)
				}
				if got, ok := impl.PropSet(s, obj, names[n], impl.VNull); ok != (room >= 4) || sameWords(got, s) == ok {
					t.Errorf("%d cells, %d words of room: PropSet of what is not there: %v, %v", n, room, got, ok)
				}
				checkSets(t, "no circle", s)
			}
		}
	}
}

// A circle of another object is nobody else's: an object behind it by its prototype is set, and so is one that shares none of its cells; one that leads into it is not.
func TestP5CircleBeside(t *testing.T) {
	s, obj, names := circleOf(3, 1, 20)
	cells := impl.Num(obj) + 3
	s, low := mustObj(t, s, obj)
	for _, name := range names {
		set := mustSet(t, s, low, name, impl.VNull)
		checkSeen(t, s, set, low, name, impl.VNull)
	}
	for i := range 3 {
		into := impl.Slab{Words: slices.Clone(s.Words)}
		into.Words[impl.Num(low)+2] = ref(impl.VInner, cells+4*i)
		for _, name := range names {
			if got, ok := impl.PropSet(into, low, name, impl.VNull); !impl.HeapOk(into) || ok || !sameWords(got, into) {
				t.Errorf("an object that begins at number %d of a circle: PropSet of %d: %v, %v", i, name, got, ok)
			}
		}
		checkObjects(t, "into a circle", into)
		checkSets(t, "into a circle", into)
	}
}

// An object whose cells go in a circle hides nothing of what its prototype has.
func TestP5BehindACircle(t *testing.T) {
	round, obj, names := circleOf(3, 1, 20)
	with, up := mustObj(t, round, impl.VNull)
	with = mustSet(t, with, up, names[3], impl.IntOf(77))
	with, ok := impl.ProtoSet(with, obj, up)
	if v, has := impl.Look(with, obj, names[3]); !ok || !has || v != impl.IntOf(77) {
		t.Errorf("behind a circle: %d, %v", v, has)
	}
	if got, ok := impl.PropSet(with, up, names[0], impl.IntOf(5)); !ok || len(impl.Names(got, up)) != 2 {
		t.Errorf("the object beside a circle: %v, %v", got, ok)
	}
	with, low := mustObj(t, with, obj)
	for i, name := range names[:3] {
		if v, ok := impl.Look(with, low, name); !ok || v != impl.IntOf(i) {
			t.Errorf("seen through a circle: %d, %v", v, ok)
		}
	}
	if v, ok := impl.Look(with, low, names[3]); !ok || v != impl.IntOf(77) {
		t.Errorf("seen behind a circle: %d, %v", v, ok)
	}
}

// A long circle, and a cell alone at the end of many: as long as the slab goes.
func TestP5LongCircle(t *testing.T) {
	for _, back := range []int{-1, 0, 1, 200, 494} {
		bodies := []body{holding(impl.BkText, 1, 'a'), holding(impl.BkText, 1, 'b'), holding(impl.BkObj, impl.VNull, ref(impl.VInner, 13)), holding(impl.BkFree, 0, 0, 0)}
		for i := range 495 {
			next := ref(impl.VInner, 13+4*(i+1))
			if i == 494 && back < 0 {
				next = impl.VUndef
			} else if i == 494 {
				next = ref(impl.VInner, 13+4*back)
			}
			name := ref(impl.VText, 0)
			if i == 494 {
				name = ref(impl.VText, 3)
			}
			bodies = append(bodies, holding(impl.BkCell, name, impl.IntOf(i), next))
		}
		s, obj := heapOf(bodies...), ref(impl.VObj, 6)
		if v, ok := impl.Look(s, obj, ref(impl.VText, 3)); !impl.HeapOk(s) || !ok || v != impl.IntOf(494) {
			t.Errorf("back to %d: the last of many: %d, %v", back, v, ok)
		}
		want := 495
		if back >= 0 {
			want = 0
		}
		if got := impl.Names(s, obj); len(got) != want {
			t.Errorf("back to %d: %d names", back, len(got))
		}
		checkObjects(t, "many cells", s)
		checkSets(t, "many cells", s)
	}
}

// Prototypes that go in a circle: each is asked once, from wherever it is begun.
func TestP5ProtosInACircle(t *testing.T) {
	for n := 1; n <= 5; n++ {
		for back := range n {
			s, _ := impl.SlabNew(200)
			s, none := mustText(t, s, "none")
			var line, names []int
			for i := range n {
				var name, obj int
				s, name = mustText(t, s, strings.Repeat("x", i))
				s, obj = mustObj(t, s, impl.VNull)
				s = mustSet(t, s, obj, name, impl.IntOf(i))
				line, names = append(line, obj), append(names, name)
			}
			for i, obj := range line {
				proto := line[back]
				if i+1 < n {
					proto = line[i+1]
				}
				var ok bool
				if s, ok = impl.ProtoSet(s, obj, proto); !ok {
					t.Fatalf("number %d of %d has no prototype", i, n)
				}
			}
			for i, obj := range line {
				for j, name := range names {
					want := j >= i || j >= back
					if v, ok := impl.Look(s, obj, name); ok != want || ok && v != impl.IntOf(j) {
						t.Errorf("%d back to %d: number %d sees %d: %d, %v", n, back, i, j, v, ok)
					}
				}
				if v, ok := impl.Look(s, obj, none); ok || v != impl.VUndef {
					t.Errorf("%d back to %d: number %d sees what nobody has: %d", n, back, i, v)
				}
				set := mustSet(t, s, obj, none, impl.VNull)
				checkSeen(t, s, set, obj, none, impl.VNull)
			}
			checkObjects(t, "prototypes in a circle", s)
		}
	}
}

// Objects and cells with a word more than they need are as those without, and keep it.
func TestP5MoreWords(t *testing.T) {
	name, other, obj, low := ref(impl.VText, 0), ref(impl.VText, 4), ref(impl.VObj, 7), ref(impl.VObj, 16)
	s := heapOf(
		holding(impl.BkText, 1, 'a', 0), holding(impl.BkText, 1, 'b'),
		holding(impl.BkObj, impl.VNull, ref(impl.VInner, 11), 0),
		holding(impl.BkCell, name, impl.IntOf(1), impl.VUndef, 0),
		holding(impl.BkObj, obj, impl.VUndef, 0),
		holding(impl.BkFree, 5, 5, 5, 5),
	)
	if v, ok := impl.Look(s, low, name); !ok || v != impl.IntOf(1) {
		t.Errorf("Look: %d, %v", v, ok)
	}
	set := mustSet(t, s, obj, other, impl.IntOf(2))
	want := heapOf(
		holding(impl.BkText, 1, 'a', 0), holding(impl.BkText, 1, 'b'),
		holding(impl.BkObj, impl.VNull, ref(impl.VInner, 11), 0),
		holding(impl.BkCell, name, impl.IntOf(1), ref(impl.VInner, 20), 0),
		holding(impl.BkObj, obj, impl.VUndef, 0),
		holding(impl.BkCell, other, impl.IntOf(2), impl.VUndef, 0),
	)
	if !sameWords(set, want) {
		t.Errorf("a cell behind one with a word more: %v", set)
	}
	checkObjects(t, "more words", set)
	checkSets(t, "more words", s)
	checkSets(t, "more words, and no room", set)
}

// Slabs with just as much room as is needed, with more, and with less, and with room in pieces.
func TestP5Room(t *testing.T) {
	name, obj := ref(impl.VText, 0), ref(impl.VObj, 3)
	for room := 2; room < 10; room++ {
		s := heapOf(holding(impl.BkText, 1, 'k'), holding(impl.BkObj, impl.VNull, impl.VUndef), holding(impl.BkFree, slices.Repeat([]int{7}, room-1)...), holding(impl.BkText, 1, 'l'))
		for what, c := range map[string]struct {
			need int
			make func() (impl.Slab, bool)
		}{
			"an object": {3, func() (impl.Slab, bool) { got, _, ok := impl.ObjNew(s, obj); return got, ok }},
			"a cell":    {4, func() (impl.Slab, bool) { return impl.PropSet(s, obj, name, impl.VNull) }},
		} {
			got, ok := c.make()
			if room < c.need {
				if ok || !sameWords(got, s) {
					t.Errorf("%s in %d words: %v, %v", what, room, got, ok)
				}
				continue
			}
			size := c.need
			if room == size+1 {
				size = room
			}
			if !ok || impl.SizeAt(got, 6) != size || impl.Room(got) != room-size || !impl.HeapOk(got) {
				t.Errorf("%s in %d words: %v, %v", what, room, got, ok)
			}
		}
		checkSets(t, "room", s)
	}
	pieces := heapOf(holding(impl.BkFree, 0), holding(impl.BkText, 0), holding(impl.BkFree, 0, 0), holding(impl.BkObj, impl.VNull, impl.VUndef), holding(impl.BkFree, 0, 0), holding(impl.BkFree, 0))
	checkSets(t, "room in pieces", pieces)
	if got, ok := impl.PropSet(pieces, ref(impl.VObj, 7), ref(impl.VText, 2), impl.VNull); ok || !sameWords(got, pieces) {
		t.Errorf("a cell where room is in pieces: %v, %v", got, ok)
	}
	if got, v, ok := impl.ObjNew(pieces, impl.VNull); !ok || v != ref(impl.VObj, 4) {
		t.Errorf("an object in the first piece that is enough: %v, %d, %v", got, v, ok)
	}
}

// What is there is set without room; what is not there is not.
func TestP5NoRoom(t *testing.T) {
	s := wholeHeap()
	obj, v := ref(impl.VObj, atObj), impl.IntOf(1)
	for name, at := range map[int]int{ref(impl.VText, atKey): atCell, ref(impl.VText, atEmpty): atNext} {
		if got, ok := impl.PropSet(s, obj, name, v); !ok || got.Words[at+2] != v {
			t.Errorf("a cell that is there: %v, %v", got, ok)
		}
	}
	if got, ok := impl.PropSet(s, obj, ref(impl.VText, atBytes), v); ok || !sameWords(got, s) {
		t.Errorf("a cell that is not there: %v, %v", got, ok)
	}
	checkObjects(t, "whole", s)
	checkSets(t, "whole", s)
}

// anyValues: values of all kinds and places, right and wrong, and numbers that are none.
func anyValues() []int {
	values := []int{impl.VUndef, impl.VNull, impl.BoolOf(false), impl.BoolOf(true), impl.IntOf(0), impl.IntOf(atObj), impl.IntOf(-1), 8, 9, 18, -6,
		ref(impl.VInt, 2147483648), math.MinInt, math.MinInt + 4, math.MinInt + 5, math.MaxInt, math.MaxInt - 2, math.MaxInt - 3}
	for kind := impl.VUndef; kind <= impl.VInner; kind++ {
		values = append(values, goalsOf(kind)...)
	}
	return values
}

// Each argument in turn is any value there is: what leads to no block of the kind that is told is refused, and the slab is as it was.
func TestP5OtherKinds(t *testing.T) {
	s := wholeHeap()
	s.Words = append(s.Words, heapOf(holding(impl.BkFree, 0, 0, 0, 0, 0)).Words...)
	g := sightOf(s)
	obj, name := ref(impl.VObj, atObj), ref(impl.VText, atKey)
	for _, v := range anyValues() {
		isObj, isText := g.leadsTo(v, impl.VObj, impl.BkObj), g.leadsTo(v, impl.VText, impl.BkText)
		isProto := v == impl.VNull || isObj
		if !isObj {
			wantNothing(t, s, "an object", v, name)
			if got, ok := impl.PropSet(s, v, name, impl.VNull); ok || !sameWords(got, s) {
				t.Errorf("PropSet of the object %d: %v, %v", v, got, ok)
			}
			if got, ok := impl.ProtoSet(s, v, impl.VNull); ok || !sameWords(got, s) {
				t.Errorf("ProtoSet of the object %d: %v, %v", v, got, ok)
			}
			if got := impl.Names(s, v); len(got) != 0 {
				t.Errorf("Names of %d are %q", v, got)
			}
		}
		if !isText {
			wantNothing(t, s, "a name", obj, v)
			if got, ok := impl.PropSet(s, obj, v, impl.VNull); ok || !sameWords(got, s) {
				t.Errorf("PropSet of the name %d: %v, %v", v, got, ok)
			}
		}
		if got, ok := impl.PropSet(s, obj, name, v); ok != g.plainValue(v) || sameWords(got, s) == (ok && v != s.Words[atCell+2]) {
			t.Errorf("PropSet to %d: %v, %v", v, got, ok)
		}
		if got, ok := impl.ProtoSet(s, obj, v); ok != isProto || sameWords(got, s) == (ok && v != impl.VNull) {
			t.Errorf("ProtoSet to %d: %v, %v", v, got, ok)
		}
		got, made, ok := impl.ObjNew(s, v)
		if ok != isProto || (made == impl.VUndef) == ok || sameWords(got, s) == ok {
			t.Errorf("ObjNew of %d: %v, %d, %v", v, got, made, ok)
		}
	}
}

func wantNothing(t *testing.T, s impl.Slab, what string, obj, name int) {
	t.Helper()
	if v, ok := impl.Own(s, obj, name); ok || v != impl.VUndef {
		t.Errorf("no such thing as %s: Own of %d, %d is %d, %v", what, obj, name, v, ok)
	}
	if v, ok := impl.Look(s, obj, name); ok || v != impl.VUndef {
		t.Errorf("no such thing as %s: Look of %d, %d is %d, %v", what, obj, name, v, ok)
	}
}

// anyHeap: texts, objects and cells in any order with any links that are right: shared cells, circles, names that are twice, free blocks between.
func anyHeap(rnd *dice) impl.Slab {
	texts, objects, cells := 1+rnd.below(3), 1+rnd.below(3), 1+rnd.below(6)
	var kinds []int
	kinds = append(kinds, slices.Repeat([]int{impl.BkText}, texts)...)
	kinds = append(kinds, slices.Repeat([]int{impl.BkObj}, objects)...)
	kinds = append(kinds, slices.Repeat([]int{impl.BkCell}, cells)...)
	kinds = append(kinds, slices.Repeat([]int{impl.BkFree}, rnd.below(3))...)
	for i := range kinds {
		j := rnd.below(i + 1)
		kinds[i], kinds[j] = kinds[j], kinds[i]
	}
	places, at := map[int][]int{}, 0
	bodies := make([]body, len(kinds))
	for i, kind := range kinds {
		need := map[int]int{impl.BkText: 2, impl.BkObj: 3, impl.BkCell: 4, impl.BkFree: 2 + rnd.below(5)}[kind] + rnd.below(2)
		bodies[i] = holding(kind, make([]int, need-1)...)
		places[kind] = append(places[kind], at)
		at += need
	}
	to := func(kind, block int) int { return ref(kind, places[block][rnd.below(len(places[block]))]) }
	link := func() int {
		if rnd.below(4) == 0 {
			return impl.VUndef
		}
		return to(impl.VInner, impl.BkCell)
	}
	for i, kind := range kinds {
		w := bodies[i].words
		switch kind {
		case impl.BkObj:
			w[0], w[1] = impl.VNull, link()
			if rnd.below(3) > 0 {
				w[0] = to(impl.VObj, impl.BkObj)
			}
		case impl.BkCell:
			w[0], w[1], w[2] = to(impl.VText, impl.BkText), impl.IntOf(i), link()
		}
	}
	return heapOf(bodies...)
}

func TestP5AnyHeap(t *testing.T) {
	rnd := &dice{5}
	rounds, ends, shared := 0, 0, 0
	for range 1500 {
		s := anyHeap(rnd)
		if !impl.HeapOk(s) {
			t.Fatalf("no heap: %v", s)
		}
		met := map[int]int{}
		for _, obj := range objectsOf(s) {
			places, round := wantCells(s.Words, obj)
			if round {
				rounds++
			} else {
				ends++
			}
			for _, at := range places {
				met[at]++
				if met[at] == 2 {
					shared++
				}
			}
		}
		checkObjects(t, "any heap", s)
		checkSets(t, "any heap", s)
	}
	if rounds < 500 || ends < 500 || shared < 500 {
		t.Errorf("%d circles, %d without, %d cells shared: too few to tell", rounds, ends, shared)
	}
}

// told: an object as a long walk reckons it: its prototype, and its names in order with their values.
type told struct {
	proto int
	names []int
	has   map[int]int
}

// A long walk of objects that are made, set and given other prototypes, beside what is there by the tests' own reckoning.
func TestP5Walk(t *testing.T) {
	rnd := &dice{55}
	for _, size := range []int{20, 60, 150, 400} {
		s, _ := impl.SlabNew(size)
		all := map[int]*told{}
		var objects, names []int
		values := []int{impl.VUndef, impl.VNull, impl.BoolOf(true), impl.IntOf(-1)}
		for i := range 6 {
			with, v, ok := impl.TextPut(s, strings.Repeat("n", i))
			if ok && size > 8*i {
				s, names, values = with, append(names, v), append(values, v)
			}
		}
		pick := func(list []int) int { return list[rnd.below(len(list))] }
		for range 250 {
			before := s
			switch what := rnd.below(8); {
			case what < 2 || len(objects) == 0:
				proto := pick(append([]int{impl.VNull}, objects...))
				with, obj, ok := impl.ObjNew(s, proto)
				if ok != hasRoom(s, 3) {
					t.Fatalf("ObjNew in %d words: %v", size, ok)
				}
				if s = with; ok {
					all[obj], objects, values = &told{proto, nil, map[int]int{}}, append(objects, obj), append(values, obj)
				}
			case what < 3:
				obj, proto := pick(objects), pick(append([]int{impl.VNull}, objects...))
				with, ok := impl.ProtoSet(s, obj, proto)
				if !ok {
					t.Fatalf("ProtoSet in %d words: %v", size, ok)
				}
				s, all[obj].proto = with, proto
			default:
				obj, name, v := pick(objects), pick(names), pick(values)
				_, has := all[obj].has[name]
				with, ok := impl.PropSet(s, obj, name, v)
				if ok != (has || hasRoom(s, 4)) {
					t.Fatalf("PropSet in %d words: %v", size, ok)
				}
				if s = with; ok && !has {
					all[obj].names = append(all[obj].names, name)
				}
				if ok {
					all[obj].has[name] = v
				}
			}
			if !impl.HeapOk(s) || len(s.Words) != len(before.Words) {
				t.Fatalf("no heap: %v", s)
			}
		}
		walkObjects(t, s, all, names)
	}
}

func walkObjects(t *testing.T, s impl.Slab, all map[int]*told, names []int) {
	t.Helper()
	for obj, is := range all {
		var texts []string
		for _, name := range is.names {
			texts = append(texts, impl.TextOf(s, name))
		}
		if got := impl.Names(s, obj); !slices.Equal(got, texts) {
			t.Errorf("Names of %d are %q, not %q", obj, got, texts)
		}
		for _, name := range names {
			want, has := is.has[name]
			if v, ok := impl.Own(s, obj, name); v != want || ok != has {
				t.Errorf("Own of %d, %d is %d, %v, not %d, %v", obj, name, v, ok, want, has)
			}
			met := map[int]bool{}
			for up := obj; up != impl.VNull && !has && !met[up]; up = all[up].proto {
				met[up] = true
				want, has = all[up].has[name]
			}
			if v, ok := impl.Look(s, obj, name); v != want || ok != has {
				t.Errorf("Look of %d, %d is %d, %v, not %d, %v", obj, name, v, ok, want, has)
			}
		}
	}
}

// wantZero: of a slab that is no heap each function of the chapter gives back nothing.
func wantZero(t *testing.T, what string, s impl.Slab, obj, name, v int) {
	t.Helper()
	wantNothing(t, s, what, obj, name)
	if got, made, ok := impl.ObjNew(s, v); ok || made != impl.VUndef || len(got.Words) != 0 {
		t.Errorf("%s: ObjNew of %d is %v, %d, %v", what, v, got, made, ok)
	}
	if got, ok := impl.PropSet(s, obj, name, v); ok || len(got.Words) != 0 {
		t.Errorf("%s: PropSet of %d, %d, %d is %v, %v", what, obj, name, v, got, ok)
	}
	if got, ok := impl.ProtoSet(s, obj, v); ok || len(got.Words) != 0 {
		t.Errorf("%s: ProtoSet of %d, %d is %v, %v", what, obj, v, got, ok)
	}
	if got := impl.Names(s, obj); len(got) != 0 {
		t.Errorf("%s: Names of %d are %q", what, obj, got)
	}
}

func TestP21ObjectsOfWrongHeaps(t *testing.T) {
	wrong := wrongHeaps()
	right := wholeHeap()
	// One word that nobody asks for makes the whole heap wrong.
	for at, w := range map[int]int{atFar + 1: 100, atAlone + 1: impl.VNull, atChild + 3: 1, atBytes + 2: 256, atNext + 3: ref(impl.VInner, atObj), atFree: 0} {
		s := impl.Slab{Words: slices.Clone(right.Words)}
		s.Words[at] = w
		wrong["whole, wrong at "+strconv.Itoa(at)] = s
	}
	ends := []int{math.MinInt, math.MaxInt, impl.VNull}
	for what, s := range wrong {
		s = withRoom(s)
		before := wholeOf(s)
		wantZero(t, what, s, ref(impl.VObj, atObj), ref(impl.VText, atKey), impl.VNull)
		wantZero(t, what, s, ref(impl.VObj, atChild), ref(impl.VText, atEmpty), ref(impl.VObj, atObj))
		wantZero(t, what, s, ref(impl.VObj, 0), ref(impl.VText, 0), impl.VNull)
		for _, obj := range ends {
			for _, name := range ends {
				for _, v := range ends {
					wantZero(t, what, s, obj, name, v)
				}
			}
		}
		spoilCopy(t, s, before, impl.Slab{})
	}
}

func TestP21ObjectsNoWords(t *testing.T) {
	for what, s := range map[string]impl.Slab{"nil": {}, "no words": {Words: []int{}}} {
		for _, v := range append(edgeNumbers(), math.MinInt, math.MaxInt) {
			wantZero(t, what, s, v, ref(impl.VText, 0), impl.VNull)
			wantZero(t, what, s, ref(impl.VObj, 0), v, impl.VNull)
			wantZero(t, what, s, ref(impl.VObj, 0), ref(impl.VText, 0), v)
			wantZero(t, what, s, v, v, v)
		}
	}
}

// Each function at the ends of int, and with arguments that are right: nothing that was handed in is changed, and what is handed back may be.
func TestP21Objects(t *testing.T) {
	plain := wholeHeap()
	plain.Words = append(plain.Words, heapOf(holding(impl.BkFree, 4, 4, 4, 4, 4)).Words...)
	round, obj, names := circleOf(3, 1, 6)
	for what, c := range map[string]struct {
		s      impl.Slab
		values []int
	}{
		"whole":  {plain, []int{math.MinInt, math.MaxInt, impl.VNull, ref(impl.VObj, atObj), ref(impl.VObj, atChild), ref(impl.VText, atKey), ref(impl.VText, atBytes), ref(impl.VInner, atScope)}},
		"circle": {round, append([]int{math.MinInt, math.MaxInt, impl.VNull, obj}, names...)},
	} {
		s := withRoom(c.s)
		before := wholeOf(s)
		for _, one := range c.values {
			got, _, _ := impl.ObjNew(s, one)
			spoilCopy(t, s, before, got)
			strs := impl.Names(s, one)
			for i := range strs {
				strs[i] = "spoilt"
			}
			if again := impl.Names(s, one); slices.Contains(again, "spoilt") {
				t.Errorf("%s: Names are kept: %q", what, again)
			}
			for _, two := range c.values {
				impl.Own(s, one, two)
				impl.Look(s, one, two)
				got, _ := impl.ProtoSet(s, one, two)
				spoilCopy(t, s, before, got)
				for _, v := range c.values {
					got, ok := impl.PropSet(s, one, two, v)
					if !ok && !sameWords(got, s) {
						t.Errorf("%s: PropSet of %d, %d, %d: %v", what, one, two, v, got)
					}
					spoilCopy(t, s, before, got)
				}
			}
		}
	}
}
