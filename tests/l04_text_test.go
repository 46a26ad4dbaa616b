package tests

import (
	"math"
	"slices"
	"strings"
	"testing"

	"loop.example/g00242/impl"
)

// wrongHeaps: slabs that are no slabs, and some that are slabs and no heaps though a text of "a" is among their blocks.
func wrongHeaps() map[string]impl.Slab {
	wrong := wrongSlabs()
	room := holding(impl.BkFree, 0, 0, 0, 0, 0, 0, 0)
	good := holding(impl.BkText, 1, 'a')
	wrong["a text of a byte 256"] = heapOf(good, holding(impl.BkText, 1, 256), room)
	wrong["a text of a byte -1"] = heapOf(good, room, holding(impl.BkText, 1, -1))
	wrong["a text of more bytes than words"] = heapOf(holding(impl.BkText, 2, 'a'), good, room)
	wrong["a text of -1 bytes"] = heapOf(holding(impl.BkText, -1, 0), good, room)
	wrong["a text of the most bytes"] = heapOf(good, holding(impl.BkText, math.MaxInt, 0), room)
	wrong["a text of the least bytes"] = heapOf(good, holding(impl.BkText, math.MinInt, 0), room)
	wrong["a text with a word more that is not 0"] = heapOf(good, holding(impl.BkText, 0, 1), room)
	wrong["an object without a prototype"] = heapOf(good, room, holding(impl.BkObj, impl.VUndef, impl.VUndef))
	return wrong
}

// bytesOf: the text of a block, by the words of chapter 3.
func bytesOf(words []int, at int) string {
	var out strings.Builder
	for _, b := range words[at+2 : at+2+words[at+1]] {
		out.WriteByte(byte(b))
	}
	return out.String()
}

// textPlaces: the places of all text blocks with these bytes, in a heap that is right.
func textPlaces(s impl.Slab, text string) []int {
	var out []int
	places, _, kinds, _ := wantBlocks(s)
	for i, at := range places {
		if kinds[i] == impl.BkText && bytesOf(s.Words, at) == text {
			out = append(out, at)
		}
	}
	return out
}

// checkTexts holds what every function tells of the texts of a heap against textPlaces.
func checkTexts(t *testing.T, s impl.Slab, texts []string) {
	t.Helper()
	for _, text := range texts {
		want, there := impl.VUndef, false
		if places := textPlaces(s, text); len(places) > 0 {
			want, there = ref(impl.VText, places[0]), true
		}
		if v, ok := impl.TextFind(s, text); v != want || ok != there {
			t.Errorf("TextFind of %q is %d, %v, not %d, %v, in %v", text, v, ok, want, there, s)
		}
	}
	places, _, kinds, _ := wantBlocks(s)
	for at := -2; at < len(s.Words)+2; at++ {
		want := ""
		if i := slices.Index(places, at); i >= 0 && kinds[i] == impl.BkText {
			want = bytesOf(s.Words, at)
		}
		if got := impl.TextOf(s, ref(impl.VText, at)); got != want {
			t.Errorf("TextOf at %d is %q, not %q, in %v", at, got, want, s)
		}
	}
}

// checkOnce: promise 4 itself: no two text blocks have the same bytes.
func checkOnce(t *testing.T, s impl.Slab) {
	t.Helper()
	places, _, kinds, _ := wantBlocks(s)
	first := map[string]int{}
	for i, at := range places {
		if kinds[i] != impl.BkText {
			continue
		}
		text := bytesOf(s.Words, at)
		if other, twice := first[text]; twice {
			t.Errorf("%q is there twice, at %d and %d, in %v", text, other, at, s)
		}
		first[text] = at
	}
}

// spoilCopy writes into what was handed back, and asks whether that is seen in what was handed in.
func spoilCopy(t *testing.T, s impl.Slab, before []int, got impl.Slab) {
	t.Helper()
	spoil(got)
	if after := wholeOf(s); !sameWords(impl.Slab{Words: after}, impl.Slab{Words: before}) {
		t.Errorf("words that were handed in are changed: %v", after)
	}
}

// oddTexts: no bytes, bytes that are no rune, pieces of runes, runes of one to four bytes, and the mark that stands for what is no rune, as a whole and in pieces.
func oddTexts() []string {
	return []string{
		"", "\x00", "\x00\x00", "a", "ab", "ba", "aa", "b", "\x7f", "\x80", "\xff", "\x80\xff", "\xff\x80", "\xff\xfe\xfd",
		"é", "\xc3", "\xa9", "\xc3\xa8", "\xa9\xc3", "é\xc3", "\xc3é", "aé", "éa", "ab\xff", "ab\xffcd",
		"\ufffd", "\xef\xbf", "\xbf\xbd", "\xef", "\xef\xbf\xbc", "€", "\xe2\x82", "\xe2\x82\xad", "€a€",
		"\U0001F600", "\xf0\x9f\x98", "\xf0\x9f\x98\x81", "\xed\xa0\x80", "\xf4\x90\x80\x80", "\xc0\x80",
	}
}

func TestP4Put(t *testing.T) {
	if impl.MaxText != 30 {
		t.Errorf("MaxText is %d", impl.MaxText)
	}
	s, _ := impl.SlabNew(12)
	for _, c := range []struct {
		text string
		at   int
		ok   bool
		want impl.Slab
	}{
		{"ab", 0, true, heapOf(holding(impl.BkText, 2, 'a', 'b'), holding(impl.BkFree, 0, 0, 0, 0, 0, 0, 0))},
		{"", 4, true, heapOf(holding(impl.BkText, 2, 'a', 'b'), holding(impl.BkText, 0), holding(impl.BkFree, 0, 0, 0, 0, 0))},
		{"ab", 0, true, heapOf(holding(impl.BkText, 2, 'a', 'b'), holding(impl.BkText, 0), holding(impl.BkFree, 0, 0, 0, 0, 0))},
		{"\x00\xff", 6, true, heapOf(holding(impl.BkText, 2, 'a', 'b'), holding(impl.BkText, 0), holding(impl.BkText, 2, 0, 255), holding(impl.BkFree, 0))},
		{"a", 0, false, heapOf(holding(impl.BkText, 2, 'a', 'b'), holding(impl.BkText, 0), holding(impl.BkText, 2, 0, 255), holding(impl.BkFree, 0))},
		{"ab", 0, true, heapOf(holding(impl.BkText, 2, 'a', 'b'), holding(impl.BkText, 0), holding(impl.BkText, 2, 0, 255), holding(impl.BkFree, 0))},
	} {
		s = withRoom(s)
		before := wholeOf(s)
		got, v, ok := impl.TextPut(s, c.text)
		want := impl.VUndef
		if c.ok {
			want = ref(impl.VText, c.at)
		}
		if v != want || ok != c.ok || !sameWords(got, c.want) {
			t.Errorf("TextPut of %q: %v, %d, %v", c.text, got, v, ok)
		}
		checkTexts(t, got, []string{"", "a", "ab", "b", "\x00\xff", "\x00", "ab\x00"})
		checkOnce(t, got)
		spoilCopy(t, s, before, got)
		s = c.want
	}
}

// A text that was given is not there any more, and is put anew where there is room first.
func TestP4GivenSince(t *testing.T) {
	s, _ := impl.SlabNew(40)
	s, one, _ := impl.TextPut(s, "one")
	s, two, _ := impl.TextPut(s, "two")
	s, six, _ := impl.TextPut(s, "sixsix")
	s = impl.Give(s, impl.Num(two))
	checkTexts(t, s, []string{"one", "two", "sixsix", ""})
	if v, ok := impl.TextFind(s, "two"); ok || v != impl.VUndef {
		t.Errorf("a text that was given is found: %d, %v", v, ok)
	}
	if got := impl.TextOf(s, two); got != "" {
		t.Errorf("a text that was given is %q", got)
	}
	// A text of the same number of bytes lies there now: the old value leads to it.
	s, owt, ok := impl.TextPut(s, "owt")
	if !ok || owt != two || impl.TextOf(s, two) != "owt" {
		t.Errorf("a text put where one was given: %d, %v", owt, ok)
	}
	s, two, ok = impl.TextPut(s, "two")
	if !ok || impl.Num(two) != impl.Num(six)+8 || impl.TextOf(s, two) != "two" {
		t.Errorf("a text put anew: %d, %v", two, ok)
	}
	s, again, ok := impl.TextPut(s, "one")
	if !ok || again != one {
		t.Errorf("a text that is there yet: %d, %v", again, ok)
	}
	checkTexts(t, s, []string{"one", "two", "owt", "sixsix"})
	checkOnce(t, s)
}

// Each odd text is put once among all others, and found, read, given and missed as the bytes that it is.
func TestP4AnyBytes(t *testing.T) {
	texts := oddTexts()
	for b := range 256 {
		texts = append(texts, string([]byte{byte(b), 'z'}))
	}
	s, _ := impl.SlabNew(impl.MaxWords)
	values := map[string]int{}
	for _, text := range texts {
		put, v, ok := impl.TextPut(s, text)
		if _, there := impl.TextFind(s, text); !ok || there || impl.TextOf(put, v) != text {
			t.Fatalf("TextPut of %q: %d, %v; there ahead of that: %v", text, v, ok, there)
		}
		if impl.SizeAt(put, impl.Num(v)) != len(text)+2 {
			t.Errorf("%q has %d words", text, impl.SizeAt(put, impl.Num(v)))
		}
		s, values[text] = put, v
	}
	checkTexts(t, s, texts)
	checkOnce(t, s)
	for _, text := range texts {
		same, v, ok := impl.TextPut(s, text)
		if !ok || v != values[text] || !sameWords(same, s) {
			t.Errorf("TextPut of %q again: %d, %v", text, v, ok)
		}
	}
	for _, text := range oddTexts() {
		without := impl.Give(s, impl.Num(values[text]))
		if v, ok := impl.TextFind(without, text); ok || v != impl.VUndef {
			t.Errorf("%q was given and is found: %d", text, v)
		}
	}
}

func TestP4Limits(t *testing.T) {
	s, _ := impl.SlabNew(100)
	most := strings.Repeat("x", impl.MaxText)
	put, v, ok := impl.TextPut(s, most)
	if !ok || v != ref(impl.VText, 0) || impl.SizeAt(put, 0) != 32 || !impl.HeapOk(put) || impl.TextOf(put, v) != most {
		t.Errorf("a text of MaxText bytes: %d, %v", v, ok)
	}
	for _, long := range []string{most + "x", most + "\x80", "\x80" + most, strings.Repeat("é", 15) + "a", strings.Repeat("€", 11), strings.Repeat("x", 5000)} {
		for name, s := range map[string]impl.Slab{"nothing": s, "a text": put, "no words": {}} {
			if got, v, ok := impl.TextPut(s, long); ok || v != impl.VUndef || !sameWords(got, s) {
				t.Errorf("a text of %d bytes beside %s: %d, %v", len(long), name, v, ok)
			}
		}
	}
	// The limit is one of bytes, not of runes.
	for _, text := range []string{strings.Repeat("é", 15), strings.Repeat("€", 10), strings.Repeat("\U0001F600", 7) + "é"} {
		if got, v, ok := impl.TextPut(s, text); !ok || impl.TextOf(got, v) != text {
			t.Errorf("%q of %d bytes: %d, %v", text, len(text), v, ok)
		}
	}
}

func textBody(text string) []int {
	words := []int{len(text)}
	for _, b := range []byte(text) {
		words = append(words, int(b))
	}
	return words
}

// longTexts have more than MaxText bytes each, up to as many as a slab holds.
func longTexts() []string {
	var all []string
	for _, n := range []int{impl.MaxText + 1, impl.MaxText + 2, 2 * impl.MaxText, 255, 256, impl.MaxWords - 2} {
		all = append(all, strings.Repeat("y", n))
	}
	return append(all, strings.Repeat("€", 11), strings.Repeat("\xff", 31), strings.Repeat("é\x80\x00", 20))
}

// unlike are texts as long as this one or longer, and none of them is it.
func unlike(long string) []string {
	n := len(long)
	return []string{long[:n-1] + "z", "z" + long[1:], long + "\x00", long + long[:1], long + long, strings.Repeat("q", n)}
}

// A heap may hold a text that is longer than one that may be put: it is told where it is put, with room and without it.
func TestP4LongerThanMost(t *testing.T) {
	for _, long := range longTexts() {
		alone := holding(impl.BkText, textBody(long)...)
		slabs := map[string]impl.Slab{"no room": heapOf(alone)}
		if len(long) < 1000 {
			slabs["room"] = heapOf(alone, holding(impl.BkFree, make([]int, len(long)+40)...))
			slabs["two of them"] = heapOf(alone, alone, holding(impl.BkFree, 0, 0))
		}
		for name, s := range slabs {
			s = withRoom(s)
			before := wholeOf(s)
			if v, ok := impl.TextFind(s, long); !ok || v != ref(impl.VText, 0) {
				t.Errorf("%s, %d bytes: found: %d, %v", name, len(long), v, ok)
			}
			if got := impl.TextOf(s, ref(impl.VText, 0)); got != long {
				t.Errorf("%s, %d bytes: read: %q", name, len(long), got)
			}
			got, v, ok := impl.TextPut(s, long)
			if !ok || v != ref(impl.VText, 0) || !sameWords(got, s) {
				t.Errorf("%s, %d bytes: put: %d, %v", name, len(long), v, ok)
			}
			spoilCopy(t, s, before, got)
			for _, other := range unlike(long) {
				if got, v, ok := impl.TextPut(s, other); ok || v != impl.VUndef || !sameWords(got, s) {
					t.Errorf("%s, %d bytes: another one is put: %q, %d, %v", name, len(long), other, v, ok)
				}
			}
		}
	}
}

// Behind other blocks it is told at its own place; once it is given, it is put no more.
func TestP4LongerThanMostGiven(t *testing.T) {
	for _, long := range longTexts() {
		if len(long) > 1000 {
			continue
		}
		s := heapOf(
			holding(impl.BkText, textBody(long[:impl.MaxText])...),
			holding(impl.BkFree, textBody(long)...),
			holding(impl.BkText, append(textBody(long), 0, 0)...),
			holding(impl.BkText, textBody(long)...),
		)
		first, second := impl.MaxText+2+len(long)+2, impl.MaxText+2+2*len(long)+6
		for _, want := range []int{first, second} {
			got, v, ok := impl.TextPut(s, long)
			if !ok || v != ref(impl.VText, want) || !sameWords(got, s) {
				t.Errorf("%d bytes: %d, %v, and not at %d", len(long), v, ok, want)
			}
			s = impl.Give(s, want)
		}
		if got, v, ok := impl.TextPut(s, long); ok || v != impl.VUndef || !sameWords(got, s) {
			t.Errorf("%d bytes that were given: %d, %v", len(long), v, ok)
		}
	}
}

// Words more than a text needs are no bytes of it, and of two alike the first one is told, whichever has them.
func TestP4FirstOfTwo(t *testing.T) {
	s := heapOf(
		holding(impl.BkText, 0, 0),
		holding(impl.BkFree, 1, 'a'),
		holding(impl.BkText, 1, 'a', 0, 0),
		holding(impl.BkObj, impl.VNull, impl.VUndef),
		holding(impl.BkText, 1, 'a'),
		holding(impl.BkText, 2, 'a', 0),
		holding(impl.BkText, 2, 'a', 0, 0),
		holding(impl.BkText, 0),
		holding(impl.BkFree, 0, 0, 0, 0, 0),
	)
	for text, at := range map[string]int{"": 0, "a": 6, "a\x00": 17} {
		if v, ok := impl.TextFind(s, text); !ok || v != ref(impl.VText, at) {
			t.Errorf("TextFind of %q: %d, %v", text, v, ok)
		}
		if got, v, ok := impl.TextPut(s, text); !ok || v != ref(impl.VText, at) || !sameWords(got, s) {
			t.Errorf("TextPut of %q: %d, %v", text, v, ok)
		}
	}
	for _, text := range []string{"\x00", "a\x00\x00", "\x00a"} {
		if v, ok := impl.TextFind(s, text); ok || v != impl.VUndef {
			t.Errorf("TextFind of %q: %d, %v", text, v, ok)
		}
	}
	checkTexts(t, s, []string{"", "a", "a\x00", "\x00"})
	// When the first one is given, the second one is the first.
	if v, ok := impl.TextFind(impl.Give(s, 6), "a"); !ok || v != ref(impl.VText, 14) {
		t.Errorf("TextFind of the second one: %d, %v", v, ok)
	}
}

// Slabs with as much room as each length needs, with more, and with less.
func TestP4Room(t *testing.T) {
	for n := 0; n <= impl.MaxText; n++ {
		text := strings.Repeat("r", n)
		for room := 2; room < n+8; room++ {
			s := heapOf(holding(impl.BkText, 1, 'k'), holding(impl.BkFree, make([]int, room-1)...), holding(impl.BkText, 1, 'l'))
			got, v, ok := impl.TextPut(s, text)
			if room < n+2 {
				if ok || v != impl.VUndef || !sameWords(got, s) {
					t.Errorf("%d bytes in %d words: %d, %v", n, room, v, ok)
				}
				continue
			}
			size := n + 2
			if room == size+1 {
				size = room
			}
			if !ok || v != ref(impl.VText, 3) || impl.SizeAt(got, 3) != size || impl.Room(got) != room-size {
				t.Errorf("%d bytes in %d words: %d, %v, %v", n, room, v, ok, got)
			}
			if !impl.HeapOk(got) || impl.TextOf(got, v) != text {
				t.Errorf("%d bytes in %d words are %q", n, room, impl.TextOf(got, v))
			}
		}
	}
	// Room in pieces, none of which is enough, is no room; what is there needs none.
	pieces := heapOf(holding(impl.BkFree, 0), holding(impl.BkText, 2, 'a', 'b'), holding(impl.BkFree, 0, 0), holding(impl.BkFree, 0))
	if got, v, ok := impl.TextPut(pieces, "cd"); ok || v != impl.VUndef || !sameWords(got, pieces) {
		t.Errorf("room in pieces: %d, %v", v, ok)
	}
	if got, v, ok := impl.TextPut(pieces, "ab"); !ok || v != ref(impl.VText, 2) || !sameWords(got, pieces) {
		t.Errorf("a text that is there: %d, %v", v, ok)
	}
	if got, v, ok := impl.TextPut(pieces, "c"); !ok || v != ref(impl.VText, 6) || impl.Room(got) != 4 {
		t.Errorf("the first piece that is enough: %d, %v", v, ok)
	}
}

// Values that lead to a text, and all others, in a heap with blocks of every kind.
func TestP4Read(t *testing.T) {
	s := wholeHeap()
	texts := map[int]string{ref(impl.VText, atKey): "key", ref(impl.VText, atEmpty): "", ref(impl.VText, atBytes): "\x00\xff"}
	values := []int{
		impl.VUndef, impl.VNull, impl.BoolOf(false), impl.BoolOf(true), impl.IntOf(0), impl.IntOf(atBytes), impl.IntOf(-1),
		8, 9, 18, math.MinInt, math.MinInt + 4, math.MaxInt, math.MaxInt - 3, ref(impl.VText, -2000), ref(impl.VText, 1999), ref(impl.VText, 2000),
	}
	for kind := impl.VUndef; kind <= impl.VInner; kind++ {
		values = append(values, goalsOf(kind)...)
	}
	for _, v := range values {
		if got := impl.TextOf(s, v); got != texts[v] {
			t.Errorf("TextOf %d is %q, not %q", v, got, texts[v])
		}
	}
	for v, text := range texts {
		if found, ok := impl.TextFind(s, text); !ok || found != v {
			t.Errorf("TextFind of %q: %d, %v", text, found, ok)
		}
	}
	for _, text := range []string{"ke", "keys", "key\x00", "Key", "\x00", "\xff", "\x00\xff\x00", "kez"} {
		if found, ok := impl.TextFind(s, text); ok || found != impl.VUndef {
			t.Errorf("TextFind of %q: %d, %v", text, found, ok)
		}
	}
}

func hasRoom(s impl.Slab, n int) bool {
	_, sizes, kinds, _ := wantBlocks(s)
	for i, size := range sizes {
		if kinds[i] == impl.BkFree && size >= n {
			return true
		}
	}
	return false
}

// A long walk of texts that are put and given, in slabs of several sizes, beside what is there by the tests' own reckoning.
func TestP4Walk(t *testing.T) {
	texts := append(oddTexts(), "key", "value", "prototype", strings.Repeat("m", impl.MaxText), strings.Repeat("é", 15))
	rnd := &dice{4}
	for _, size := range []int{2, 3, 5, 12, 31, 32, 64, 150} {
		s, _ := impl.SlabNew(size)
		there := map[string]int{}
		for range 300 {
			text := texts[rnd.below(len(texts))]
			v, has := there[text]
			if has && rnd.below(3) == 0 {
				s = impl.Give(s, impl.Num(v))
				delete(there, text)
				continue
			}
			put, got, ok := impl.TextPut(s, text)
			switch {
			case has && (!ok || got != v || !sameWords(put, s)):
				t.Fatalf("%q is there, and put: %d, %v", text, got, ok)
			case !has && ok:
				there[text] = got
			case !ok && (got != impl.VUndef || !sameWords(put, s) || hasRoom(s, len(text)+2)):
				t.Fatalf("%q is refused: %d, %v", text, got, put)
			}
			s = put
			checkOnce(t, s)
		}
		checkTexts(t, s, texts)
		for _, text := range texts {
			if v, ok := impl.TextFind(s, text); ok != (len(textPlaces(s, text)) == 1) || ok && v != there[text] {
				t.Errorf("%q in %d words: %d, %v", text, size, v, ok)
			}
		}
		for text, v := range there {
			if impl.TextOf(s, v) != text {
				t.Errorf("%q in %d words is %q", text, size, impl.TextOf(s, v))
			}
		}
	}
}

// No words: nothing is there, and no room.
func TestP21TextsNoWords(t *testing.T) {
	for name, s := range map[string]impl.Slab{"nil": {}, "no words": {Words: []int{}}} {
		for _, text := range []string{"", "a", strings.Repeat("x", impl.MaxText+1)} {
			if v, ok := impl.TextFind(s, text); ok || v != impl.VUndef {
				t.Errorf("%s: TextFind of %q: %d, %v", name, text, v, ok)
			}
			if got, v, ok := impl.TextPut(s, text); ok || v != impl.VUndef || len(got.Words) != 0 {
				t.Errorf("%s: TextPut of %q: %v, %d, %v", name, text, got, v, ok)
			}
		}
		for _, v := range edgeNumbers() {
			if got := impl.TextOf(s, v); got != "" {
				t.Errorf("%s: TextOf %d is %q", name, v, got)
			}
		}
	}
}

func TestP21TextsOfWrongHeaps(t *testing.T) {
	for name, s := range wrongHeaps() {
		s = withRoom(s)
		before := wholeOf(s)
		for _, text := range []string{"a", "", "b", strings.Repeat("x", 100)} {
			if got, v, ok := impl.TextPut(s, text); ok || v != impl.VUndef || len(got.Words) != 0 {
				t.Errorf("%s: TextPut of %q is %v, %d, %v", name, text, got, v, ok)
			}
			if v, ok := impl.TextFind(s, text); ok || v != impl.VUndef {
				t.Errorf("%s: TextFind of %q is %d, %v", name, text, v, ok)
			}
		}
		for at := -1; at < 20; at++ {
			if got := impl.TextOf(s, ref(impl.VText, at)); got != "" {
				t.Errorf("%s: TextOf at %d is %q", name, at, got)
			}
		}
		spoilCopy(t, s, before, impl.Slab{})
	}
}

func TestP21Texts(t *testing.T) {
	many := strings.Repeat("many bytes\xff", 100000)
	s := withRoom(wholeHeap())
	before := wholeOf(s)
	for _, v := range append(edgeNumbers(), math.MinInt, math.MaxInt) {
		if got := impl.TextOf(s, v); got != "" && v != ref(impl.VText, atKey) && v != ref(impl.VText, atBytes) {
			t.Errorf("TextOf %d is %q", v, got)
		}
	}
	for _, text := range []string{many, "", "key", "new", "no", strings.Repeat("x", impl.MaxText), strings.Repeat("x", impl.MaxText+1)} {
		impl.TextFind(s, text)
		got, _, _ := impl.TextPut(s, text)
		spoilCopy(t, s, before, got)
	}
	if v, ok := impl.TextFind(s, many); ok || v != impl.VUndef {
		t.Errorf("a text of very many bytes is found: %d", v)
	}
	if got, v, ok := impl.TextPut(s, many); ok || v != impl.VUndef || !sameWords(got, s) {
		t.Errorf("a text of very many bytes is put: %d, %v", v, ok)
	}
	// Where a text is put for real, what was handed in is still as it was.
	room := withRoom(heapOf(holding(impl.BkText, 1, 'a'), holding(impl.BkFree, 9, 9, 9, 9)))
	before = wholeOf(room)
	got, v, ok := impl.TextPut(room, "bcd")
	if !ok || v != ref(impl.VText, 3) || impl.TextOf(got, v) != "bcd" {
		t.Errorf("a text in the room: %d, %v", v, ok)
	}
	spoilCopy(t, room, before, got)
}
