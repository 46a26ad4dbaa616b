package tests

import (
	"math"
	"slices"
	"testing"

	"loop.example/g00242/impl"
)

// piece: a block as the tests lay it: its kind, how many words it has, and the word that fills it behind the first one.
type piece struct {
	kind, size, fill int
}

func laid(pieces ...piece) impl.Slab {
	var words []int
	for _, p := range pieces {
		words = append(words, 8*p.size+p.kind)
		for i := 1; i < p.size; i++ {
			words = append(words, p.fill)
		}
	}
	return impl.Slab{Words: words}
}

// withRoom: the same words, with spare room behind them that tells whether anybody wrote into it.
func withRoom(s impl.Slab) impl.Slab {
	words := make([]int, len(s.Words)+3)
	for i := range words {
		words[i] = -77
	}
	copy(words, s.Words)
	return impl.Slab{Words: words[:len(s.Words)]}
}

func wholeOf(s impl.Slab) []int { return slices.Clone(s.Words[:cap(s.Words)]) }

func sameWords(a, b impl.Slab) bool { return slices.Equal(a.Words, b.Words) }

// wantBlocks: the places and sizes by the chapter's words alone; false when they are no blocks.
func wantBlocks(s impl.Slab) (places, sizes, kinds []int, ok bool) {
	if len(s.Words) > 2000 {
		return nil, nil, nil, false
	}
	at := 0
	for at < len(s.Words) {
		kind, size := leftOver(s.Words[at], 8), wantNum(s.Words[at])
		if kind > 5 || size < 2 || size > 2000 || at+size > len(s.Words) {
			return nil, nil, nil, false
		}
		places, sizes, kinds = append(places, at), append(sizes, size), append(kinds, kind)
		at += size
	}
	return places, sizes, kinds, true
}

// checkSlab holds what every function tells of a slab against wantBlocks, at each place of it and at those next to its ends.
func checkSlab(t *testing.T, s impl.Slab) {
	t.Helper()
	places, sizes, kinds, ok := wantBlocks(s)
	if got := impl.SlabOk(s); got != ok {
		t.Errorf("SlabOk is %v of %v", got, s)
	}
	if got := impl.Blocks(s); !slices.Equal(got, places) {
		t.Errorf("Blocks are %v, not %v, of %v", got, places, s)
	}
	room := 0
	for i := range places {
		if kinds[i] == impl.BkFree {
			room += sizes[i]
		}
	}
	if got := impl.Room(s); got != room {
		t.Errorf("Room is %d, not %d, of %v", got, room, s)
	}
	for at := -3; at < len(s.Words)+3; at++ {
		kind, size := -1, 0
		if i := slices.Index(places, at); i >= 0 {
			kind, size = kinds[i], sizes[i]
		}
		if impl.KindAt(s, at) != kind || impl.SizeAt(s, at) != size {
			t.Errorf("at %d is a block of kind %d and size %d, not %d and %d, of %v", at, impl.KindAt(s, at), impl.SizeAt(s, at), kind, size, s)
		}
	}
}

// wrongSlabs: words that are no blocks, each with some that would be blocks if the rest were.
func wrongSlabs() map[string]impl.Slab {
	long := laid(piece{impl.BkFree, 1999, 0}, piece{impl.BkText, 2, 0})
	wrong := map[string]impl.Slab{
		"too long":                  long,
		"too long, one block":       laid(piece{impl.BkFree, 2001, 0}),
		"one word":                  {Words: []int{8}},
		"one word, size 2":          {Words: []int{16}},
		"one word of 0":             {Words: []int{0}},
		"size 0":                    {Words: []int{16, 0, 0, 0}},
		"size 0 first":              {Words: []int{0, 0, 16, 0}},
		"size 1":                    {Words: []int{16, 0, 8, 16, 0}},
		"size 1 last":               {Words: []int{16, 0, 9}},
		"size -1":                   {Words: []int{16, 0, -8, 0}},
		"size -2 back to the first": {Words: []int{16, 0, -16, 0}},
		"one beyond the last":       {Words: []int{16, 0, 24, 0}},
		"far beyond the last":       {Words: []int{16, 0, 8 * 1999, 0}},
		"too great by one":          {Words: []int{40, 0, 0, 0}},
		"too small by one":          {Words: []int{24, 0, 0, 0}},
		"kind 6":                    {Words: []int{16, 0, 22, 0}},
		"kind 7":                    {Words: []int{23, 0, 16, 0}},
		"greatest":                  {Words: []int{16, 0, math.MaxInt, 0}},
		"greatest free":             {Words: []int{16, 0, math.MaxInt - 7, 0}},
		"greatest scope first":      {Words: []int{math.MaxInt - 2, 0}},
		"least":                     {Words: []int{16, 0, math.MinInt, 0}},
		"least first":               {Words: []int{math.MinInt, 0, 16, 0}},
	}
	return wrong
}

// rightSlabs: ordinary ones and those at the edges.
func rightSlabs() map[string]impl.Slab {
	return map[string]impl.Slab{
		"no words":         {},
		"free 2":           laid(piece{impl.BkFree, 2, 0}),
		"text 2":           laid(piece{impl.BkText, 2, 9}),
		"free 3":           laid(piece{impl.BkFree, 3, 0}),
		"free 1999":        laid(piece{impl.BkFree, 1999, 0}),
		"free 2000":        laid(piece{impl.BkFree, 2000, 0}),
		"scope 2000":       laid(piece{impl.BkScope, 2000, 0}),
		"1998 and 2":       laid(piece{impl.BkObj, 1998, 1}, piece{impl.BkFree, 2, 0}),
		"each kind":        laid(piece{1, 2, 0}, piece{2, 3, 0}, piece{3, 4, 0}, piece{4, 3, 0}, piece{5, 6, 0}, piece{0, 5, 0}),
		"words like heads": laid(piece{impl.BkText, 5, 16}, piece{impl.BkFree, 3, 17}, piece{impl.BkCell, 4, -16}),
		"free in pieces":   laid(piece{0, 2, 0}, piece{0, 3, 0}, piece{2, 3, 0}, piece{0, 4, 0}, piece{0, 2, 0}),
		"words at the ends of int": laid(
			piece{impl.BkObj, 3, math.MaxInt}, piece{impl.BkFree, 4, math.MinInt}, piece{impl.BkText, 2, 0}),
	}
}

func TestP2Constants(t *testing.T) {
	got := [6]int{impl.BkFree, impl.BkText, impl.BkObj, impl.BkCell, impl.BkFun, impl.BkScope}
	if want := [6]int{0, 1, 2, 3, 4, 5}; got != want {
		t.Errorf("constants are %v, not %v", got, want)
	}
}

func TestP2Told(t *testing.T) {
	for name, s := range rightSlabs() {
		if !impl.SlabOk(s) {
			t.Errorf("%s is refused", name)
		}
		checkSlab(t, s)
	}
	for name, s := range wrongSlabs() {
		if impl.SlabOk(s) || len(impl.Blocks(s)) != 0 || impl.Room(s) != 0 || impl.KindAt(s, 0) != -1 || impl.SizeAt(s, 0) != 0 {
			t.Errorf("%s is taken for a slab", name)
		}
		checkSlab(t, s)
	}
}

// Every slab of up to five words whose words are one of these.
func TestP2ToldOfAllSmall(t *testing.T) {
	heads := []int{0, 8, 16, 17, 21, 22, 24, 29, 32, 40, -16}
	var grow func(words []int)
	grow = func(words []int) {
		checkSlab(t, impl.Slab{Words: words})
		if len(words) == 5 || t.Failed() {
			return
		}
		for _, h := range heads {
			grow(append(slices.Clone(words), h))
		}
	}
	grow(nil)
}

func TestP2SlabNew(t *testing.T) {
	for _, size := range []int{2, 3, 4, 10, 100, 1998, 1999, 2000} {
		s, ok := impl.SlabNew(size)
		if !ok || !sameWords(s, laid(piece{impl.BkFree, size, 0})) {
			t.Errorf("SlabNew(%d) is %v, %v", size, s, ok)
		}
		checkSlab(t, s)
		if impl.Room(s) != size {
			t.Errorf("SlabNew(%d) has room %d", size, impl.Room(s))
		}
	}
	for _, size := range []int{1, 0, -1, -2, -16, 2001, 2002, 1 << 60, math.MinInt, math.MinInt + 2, math.MaxInt} {
		if s, ok := impl.SlabNew(size); ok || len(s.Words) != 0 {
			t.Errorf("SlabNew(%d) is %d words, %v", size, len(s.Words), ok)
		}
	}
}

// What is left over: 0 and 1 words stay with the block, 2 and 3 are a free one behind it. The free block is full of words that must not stay in what is taken.
func TestP2TakeLeavesOver(t *testing.T) {
	for _, n := range []int{2, 3, 7} {
		for left := 0; left <= 3; left++ {
			for kind := impl.BkText; kind <= impl.BkScope; kind++ {
				s := laid(piece{impl.BkObj, 3, 5}, piece{impl.BkFree, n + left, 99}, piece{impl.BkCell, 4, 7})
				got, at, ok := impl.Take(s, kind, n)
				size, places := n, []int{0, 3, 3 + n, 3 + n + left}
				if left < 2 {
					size, places = n+left, []int{0, 3, 3 + n + left}
				}
				if !ok || at != 3 || !slices.Equal(impl.Blocks(got), places) {
					t.Fatalf("%d of %d: %v at %d, %v", n, n+left, got, at, ok)
				}
				want := laid(piece{kind, size, 0})
				if !slices.Equal(got.Words[3:3+size], want.Words) {
					t.Errorf("%d of %d: the block is %v", n, n+left, got.Words[3:3+size])
				}
				if left >= 2 && got.Words[3+n] != 8*left {
					t.Errorf("%d of %d: what is left over begins with %d", n, n+left, got.Words[3+n])
				}
				if !slices.Equal(got.Words[:3], s.Words[:3]) || !slices.Equal(got.Words[3+n+left:], s.Words[3+n+left:]) {
					t.Errorf("%d of %d: others changed: %v", n, n+left, got)
				}
				checkSlab(t, got)
			}
		}
	}
}

func TestP2TakeFirst(t *testing.T) {
	s := laid(piece{0, 3, 0}, piece{1, 2, 5}, piece{0, 2, 0}, piece{2, 3, 5}, piece{0, 6, 0}, piece{3, 4, 5}, piece{0, 4, 0})
	for _, c := range []struct {
		n, at, size int
	}{
		{2, 0, 3}, {3, 0, 3}, {4, 10, 4}, {5, 10, 6}, {6, 10, 6},
	} {
		got, at, ok := impl.Take(s, impl.BkScope, c.n)
		if !ok || at != c.at || impl.SizeAt(got, at) != c.size || impl.KindAt(got, at) != impl.BkScope || impl.Room(got) != 15-c.size {
			t.Errorf("Take of %d: %v, %d, %v", c.n, got, at, ok)
		}
		checkSlab(t, got)
	}
	for _, n := range []int{7, 8, 15, 24, 2000, 2001, math.MaxInt} {
		if got, at, ok := impl.Take(s, impl.BkScope, n); ok || at != 0 || !sameWords(got, s) {
			t.Errorf("Take of %d: %v, %d, %v", n, got, at, ok)
		}
	}
	last, at, ok := impl.Take(laid(piece{1, 4, 5}, piece{0, 4, 0}), impl.BkFun, 3)
	if !ok || at != 4 || !sameWords(last, laid(piece{1, 4, 5}, piece{impl.BkFun, 4, 0})) {
		t.Errorf("the last block: %v, %d, %v", last, at, ok)
	}
	whole, _ := impl.SlabNew(2000)
	if got, at, ok := impl.Take(whole, impl.BkText, 2000); !ok || at != 0 || !sameWords(got, laid(piece{1, 2000, 0})) {
		t.Error("all words of the greatest slab can't be taken")
	}
	// Two free blocks side by side are not one that is great enough.
	pieces := laid(piece{0, 2, 0}, piece{0, 3, 0})
	if got, at, ok := impl.Take(pieces, impl.BkText, 4); ok || at != 0 || !sameWords(got, pieces) {
		t.Errorf("4 words of 2 and 3: %v, %d, %v", got, at, ok)
	}
}

func TestP2TakeOthers(t *testing.T) {
	s := laid(piece{1, 3, 5}, piece{0, 9, 0})
	for _, kind := range []int{impl.BkFree, 6, 7, 8, 9, -1, -7, math.MinInt, math.MinInt + 1, math.MaxInt} {
		if got, at, ok := impl.Take(s, kind, 3); ok || at != 0 || !sameWords(got, s) {
			t.Errorf("kind %d: %v, %d, %v", kind, got, at, ok)
		}
	}
	for _, n := range []int{1, 0, -1, -2, -9, math.MinInt, math.MinInt + 1} {
		if got, at, ok := impl.Take(s, impl.BkText, n); ok || at != 0 || !sameWords(got, s) {
			t.Errorf("%d words: %v, %d, %v", n, got, at, ok)
		}
	}
	full := laid(piece{1, 3, 5}, piece{2, 3, 5})
	if got, at, ok := impl.Take(full, impl.BkText, 2); ok || at != 0 || !sameWords(got, full) {
		t.Errorf("a full slab: %v, %d, %v", got, at, ok)
	}
	wrong := wrongSlabs()
	wrong["no words"] = impl.Slab{}
	for name, s := range wrong {
		for _, n := range []int{2, 1} {
			for _, kind := range []int{impl.BkText, impl.BkFree, 6} {
				if got, at, ok := impl.Take(s, kind, n); ok || at != 0 || len(got.Words) != 0 {
					t.Errorf("%s, kind %d, %d words: %d words, %d, %v", name, kind, n, len(got.Words), at, ok)
				}
			}
		}
	}
}

// A block with a free one right behind it, right ahead of it, on both sides and on none, as the first, the last, the only one and one between others.
func TestP2GiveNeighbours(t *testing.T) {
	obj := piece{impl.BkObj, 3, 5}
	for _, c := range []struct {
		name string
		s    []piece
		at   int
		want []piece
		room int
	}{
		{"none", []piece{obj, {1, 2, 7}, obj}, 3, []piece{obj, {0, 2, 0}, obj}, 2},
		{"behind", []piece{obj, {1, 4, 7}, {0, 3, 0}, obj}, 3, []piece{obj, {0, 7, 0}, obj}, 7},
		{"ahead", []piece{obj, {0, 2, 0}, {5, 6, 7}, obj}, 5, []piece{obj, {0, 8, 0}, obj}, 8},
		{"both", []piece{obj, {0, 2, 0}, {3, 4, 7}, {0, 5, 0}, obj}, 5, []piece{obj, {0, 11, 0}, obj}, 11},
		{"first", []piece{{4, 3, 7}, obj}, 0, []piece{{0, 3, 0}, obj}, 3},
		{"first, behind", []piece{{4, 3, 7}, {0, 2, 0}, obj}, 0, []piece{{0, 5, 0}, obj}, 5},
		{"last", []piece{obj, {4, 3, 7}}, 3, []piece{obj, {0, 3, 0}}, 3},
		{"last, ahead", []piece{obj, {0, 4, 0}, {4, 3, 7}}, 7, []piece{obj, {0, 7, 0}}, 7},
		{"only", []piece{{1, 2, 7}}, 0, []piece{{0, 2, 0}}, 2},
		{"all", []piece{{0, 2, 0}, {1, 2, 7}, {0, 2, 0}}, 2, []piece{{0, 6, 0}}, 6},
		{"greatest", []piece{{1, 2000, 7}}, 0, []piece{{0, 2000, 0}}, 2000},
		{"free, but not near", []piece{{0, 2, 0}, obj, {1, 4, 7}, obj, {0, 2, 0}}, 5, []piece{{0, 2, 0}, obj, {0, 4, 0}, obj, {0, 2, 0}}, 8},
	} {
		s := laid(c.s...)
		got := impl.Give(s, c.at)
		if !sameWords(got, laid(c.want...)) {
			t.Errorf("%s: %v, not %v", c.name, got, laid(c.want...))
		}
		if impl.Room(got) != c.room || impl.Room(got) != impl.Room(s)+impl.SizeAt(s, c.at) {
			t.Errorf("%s: room is %d", c.name, impl.Room(got))
		}
		checkSlab(t, got)
	}
}

func TestP2GiveOthers(t *testing.T) {
	slabs := rightSlabs()
	for name, s := range wrongSlabs() {
		slabs["wrong, "+name] = s
	}
	for name, s := range slabs {
		for _, at := range []int{-1, -2, -16, 1, 4, len(s.Words) - 1, len(s.Words), len(s.Words) + 1, 2000, math.MinInt, math.MaxInt} {
			if impl.KindAt(s, at) > impl.BkFree {
				continue
			}
			if got := impl.Give(s, at); !sameWords(got, s) {
				t.Errorf("%s: Give at %d is %v", name, at, got)
			}
		}
		for at := range min(len(s.Words), 20) {
			if impl.KindAt(s, at) <= impl.BkFree && !sameWords(impl.Give(s, at), s) {
				t.Errorf("%s: Give at %d, where nothing is to be given, changed it", name, at)
			}
		}
	}
	// A block that is free already stays as it is, with a free one next to it too.
	s := laid(piece{0, 2, 3}, piece{0, 3, 4}, piece{1, 2, 5})
	for _, at := range []int{0, 2} {
		if got := impl.Give(s, at); !sameWords(got, s) {
			t.Errorf("free at %d: %v", at, got)
		}
	}
	if once := impl.Give(s, 5); !sameWords(impl.Give(once, 5), once) {
		t.Error("given twice")
	}
}

func orders(n int) [][]int {
	if n == 0 {
		return [][]int{nil}
	}
	var out [][]int
	for _, o := range orders(n - 1) {
		for i := 0; i <= len(o); i++ {
			out = append(out, slices.Insert(slices.Clone(o), i, n-1))
		}
	}
	return out
}

// Five blocks are taken, written into and given back in each order there is: the slab is as it was.
func TestP2TakenAndGivenInAnyOrder(t *testing.T) {
	sizes := []int{2, 5, 3, 2, 4}
	for spare := 0; spare <= 3; spare++ {
		fresh, _ := impl.SlabNew(16 + spare)
		s := fresh
		var places []int
		for i, n := range sizes {
			var at int
			var ok bool
			if s, at, ok = impl.Take(s, 1+i, n); !ok {
				t.Fatal("no room", s)
			}
			for j := 1; j < n; j++ {
				s.Words[at+j] = 100 + i
			}
			places = append(places, at)
		}
		for _, order := range orders(len(sizes)) {
			g := s
			for _, i := range order {
				before, size := impl.Room(g), impl.SizeAt(g, places[i])
				g = impl.Give(g, places[i])
				if impl.Room(g) != before+size {
					t.Errorf("order %v: room is %d behind %d and %d", order, impl.Room(g), before, size)
				}
				checkSlab(t, g)
			}
			if !sameWords(g, fresh) {
				t.Errorf("order %v: %v", order, g)
			}
		}
	}
}

// dice throws the same numbers each time, so that a walk that fails can be walked again.
type dice struct {
	state uint64
}

func (d *dice) below(n int) int {
	d.state = d.state*6364136223846793005 + 1442695040888963407
	return int(d.state>>33) % n
}

// A long walk of takes and gives: at each step no word is lost, blocks that were not asked for stay as they are, and free blocks never touch.
func TestP2Walk(t *testing.T) {
	rnd := &dice{2}
	for _, size := range []int{2, 3, 4, 7, 40, 200, 2000} {
		s, _ := impl.SlabNew(size)
		held := map[int][]int{}
		for step := range 400 {
			if rnd.below(3) > 0 {
				s = walkTake(t, rnd, s, held)
			} else if len(held) > 0 {
				s = walkGive(t, rnd, s, held)
			}
			walkCheck(t, s, size, held)
			if t.Failed() {
				t.Fatalf("size %d, step %d", size, step)
			}
		}
		for _, at := range sortedPlaces(held) {
			s = impl.Give(s, at)
		}
		if fresh, _ := impl.SlabNew(size); !sameWords(s, fresh) {
			t.Errorf("size %d: all is given, and it is %v", size, s)
		}
	}
}

func sortedPlaces(held map[int][]int) []int {
	var out []int
	for at := range held {
		out = append(out, at)
	}
	slices.Sort(out)
	return out
}

func walkTake(t *testing.T, rnd *dice, s impl.Slab, held map[int][]int) impl.Slab {
	kind, n := 1+rnd.below(5), 2+rnd.below(8)
	before := impl.Room(s)
	got, at, ok := impl.Take(s, kind, n)
	if !ok {
		for _, b := range impl.Blocks(s) {
			if impl.KindAt(s, b) == impl.BkFree && impl.SizeAt(s, b) >= n {
				t.Errorf("refused %d words of %v", n, s)
			}
		}
		return got
	}
	size := impl.SizeAt(got, at)
	if size != n && (size != n+1 || impl.SizeAt(s, at) != n+1) || impl.KindAt(got, at) != kind || impl.Room(got) != before-size {
		t.Errorf("%d words of %v: %v", n, s, got)
	}
	for i := 1; i < size; i++ {
		if got.Words[at+i] != 0 {
			t.Errorf("word %d is not 0 of %v", at+i, got)
		}
		got.Words[at+i] = rnd.below(300) - 100
	}
	held[at] = slices.Clone(got.Words[at : at+size])
	return got
}

func walkGive(t *testing.T, rnd *dice, s impl.Slab, held map[int][]int) impl.Slab {
	places := sortedPlaces(held)
	at := places[rnd.below(len(places))]
	got := impl.Give(s, at)
	if impl.Room(got) != impl.Room(s)+len(held[at]) {
		t.Errorf("given at %d of %v: %v", at, s, got)
	}
	delete(held, at)
	return got
}

func walkCheck(t *testing.T, s impl.Slab, size int, held map[int][]int) {
	t.Helper()
	if len(s.Words) != size || !impl.SlabOk(s) {
		t.Fatalf("no slab of %d words: %v", size, s)
	}
	room, free := size, false
	for _, at := range impl.Blocks(s) {
		words, ok := held[at]
		if ok {
			room -= len(words)
		}
		if ok && !slices.Equal(s.Words[at:at+len(words)], words) {
			t.Errorf("the block at %d is %v, not %v", at, s.Words[at:at+len(words)], words)
		}
		if ok == (impl.KindAt(s, at) == impl.BkFree) || !ok && free {
			t.Errorf("the block at %d is free, or not, as it should not be: %v", at, s)
		}
		free = !ok
	}
	if impl.Room(s) != room {
		t.Errorf("room is %d, not %d: %v", impl.Room(s), room, s)
	}
}

// Each function of chapter 2 at the ends of int and at slabs of all sorts: nothing panics, and nothing is written into what was handed in or behind it.
func TestP21Slab(t *testing.T) {
	numbers := []int{math.MinInt, math.MinInt + 1, -16, -2, -1, 0, 1, 2, 3, 5, 6, 7, 1999, 2000, 2001, math.MaxInt - 1, math.MaxInt}
	slabs := rightSlabs()
	for name, s := range wrongSlabs() {
		slabs["wrong, "+name] = s
	}
	for name, plain := range slabs {
		s := withRoom(plain)
		before := wholeOf(s)
		impl.SlabOk(s)
		impl.Room(s)
		for i := range impl.Blocks(s) {
			impl.Blocks(s)[i] = -9
		}
		for _, at := range numbers {
			if kind := impl.KindAt(s, at); kind == -1 && impl.SizeAt(s, at) != 0 {
				t.Errorf("%s: no block at %d, but of size %d", name, at, impl.SizeAt(s, at))
			}
			spoil(impl.Give(s, at))
			for kind := range 8 {
				got, _, _ := impl.Take(s, kind, at)
				spoil(got)
			}
			got, _, _ := impl.Take(s, at, 2)
			spoil(got)
		}
		if !slices.Equal(wholeOf(s), before) {
			t.Errorf("%s: words that were handed in are changed", name)
		}
	}
	one, _ := impl.SlabNew(9)
	two, _ := impl.SlabNew(9)
	spoil(one)
	if !sameWords(two, laid(piece{0, 9, 0})) {
		t.Error("two new slabs share their words")
	}
}

// spoil writes into all of a slab that was handed back, its spare room too.
func spoil(s impl.Slab) {
	all := s.Words[:cap(s.Words)]
	for i := range all {
		all[i] = -5
	}
}

// Slabs of no words and slabs that are not right: what is asked of them, at any number, has the fixed answer.
func TestP21WrongSlabs(t *testing.T) {
	wrong := wrongSlabs()
	wrong["no words"] = impl.Slab{Words: []int{}}
	wrong["nil"] = impl.Slab{}
	for name, s := range wrong {
		if len(impl.Blocks(s)) != 0 || impl.Room(s) != 0 {
			t.Errorf("%s: blocks %v, room %d", name, impl.Blocks(s), impl.Room(s))
		}
		for _, n := range []int{math.MinInt, -1, 0, 1, 2, 4, 1999, 2000, math.MaxInt} {
			if impl.KindAt(s, n) != -1 || impl.SizeAt(s, n) != 0 || !sameWords(impl.Give(s, n), s) {
				t.Errorf("%s: at %d kind %d, size %d, given %v", name, n, impl.KindAt(s, n), impl.SizeAt(s, n), impl.Give(s, n))
			}
			for _, kind := range []int{math.MinInt, -1, 0, 1, 5, 6, math.MaxInt} {
				if got, at, ok := impl.Take(s, kind, n); ok || at != 0 || len(got.Words) != 0 {
					t.Errorf("%s: taken %d, %d: %v, %d, %v", name, kind, n, got, at, ok)
				}
			}
		}
	}
}
