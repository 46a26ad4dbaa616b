package tests

import (
	"math"
	"math/big"
	"testing"

	"loop.example/g00242/impl"
)

// edgeNumbers: the limits that chapter 1 names, the ones next to them, and the ends of int.
func edgeNumbers() []int {
	near := []int{
		0, 8, -8, 64, -64,
		2147483647, 2147483648, -2147483648, -2147483649,
		4294967295, 4294967296, -4294967296, 3 * 4294967296, -3 * 4294967296,
		8 * 2147483647, 8 * -2147483648,
		impl.MaxWords, 8 * impl.MaxWords,
		1 << 62, -(1 << 62),
	}
	var out []int
	for _, n := range near {
		for d := -9; d <= 9; d++ {
			out = append(out, n+d)
		}
	}
	for d := 0; d <= 9; d++ {
		out = append(out, math.MaxInt-d, math.MinInt+d)
	}
	return out
}

// leftOver works with numbers of any length, so that no edge of int can trouble it; it is from 0 on.
func leftOver(n int, by int64) int {
	return int(new(big.Int).Mod(big.NewInt(int64(n)), big.NewInt(by)).Int64())
}

func wantWrap(n int) int {
	left := leftOver(n, 4294967296)
	if left > 2147483647 {
		left -= 4294967296
	}
	return left
}

func wantNum(v int) int {
	rest := new(big.Int).Sub(big.NewInt(int64(v)), big.NewInt(int64(leftOver(v, 8))))
	return int(rest.Div(rest, big.NewInt(8)).Int64())
}

func wantOk(v int) bool {
	kind, n := leftOver(v, 8), wantNum(v)
	least, most := 0, 0
	switch kind {
	case 2:
		most = 1
	case 3:
		least, most = -2147483648, 2147483647
	case 4, 5, 6, 7:
		most = 1999
	}
	return n >= least && n <= most
}

func TestP1Constants(t *testing.T) {
	got := [9]int{impl.VUndef, impl.VNull, impl.VBool, impl.VInt, impl.VText, impl.VObj, impl.VFun, impl.VInner, impl.MaxWords}
	if want := [9]int{0, 1, 2, 3, 4, 5, 6, 7, 2000}; got != want {
		t.Errorf("constants are %v, not %v", got, want)
	}
}

func TestP1Wrap(t *testing.T) {
	for _, c := range [][2]int{
		{0, 0}, {1, 1}, {-1, -1}, {-5, -5}, {1234567, 1234567},
		{2147483646, 2147483646}, {2147483647, 2147483647},
		{2147483648, -2147483648}, {2147483649, -2147483647},
		{-2147483647, -2147483647}, {-2147483648, -2147483648},
		{-2147483649, 2147483647}, {-2147483650, 2147483646},
		{4294967295, -1}, {4294967296, 0}, {4294967297, 1}, {-4294967296, 0}, {-4294967297, -1},
		{math.MaxInt, -1}, {math.MaxInt - 1, -2}, {math.MinInt, 0}, {math.MinInt + 1, 1},
	} {
		if got := impl.Wrap(c[0]); got != c[1] {
			t.Errorf("Wrap(%d) is %d, not %d", c[0], got, c[1])
		}
	}
	for _, n := range edgeNumbers() {
		if got, want := impl.Wrap(n), wantWrap(n); got != want {
			t.Errorf("Wrap(%d) is %d, not %d", n, got, want)
		}
	}
}

func TestP1Words(t *testing.T) {
	for _, c := range []struct {
		name      string
		got, want int
	}{
		{"IntOf(0)", impl.IntOf(0), 3},
		{"IntOf(5)", impl.IntOf(5), 43},
		{"IntOf(-1)", impl.IntOf(-1), -5},
		{"IntOf(-5)", impl.IntOf(-5), -37},
		{"IntOf(2147483647)", impl.IntOf(2147483647), 17179869179},
		{"IntOf(2147483648)", impl.IntOf(2147483648), -17179869181},
		{"IntOf(-2147483648)", impl.IntOf(-2147483648), -17179869181},
		{"IntOf(-2147483649)", impl.IntOf(-2147483649), 17179869179},
		{"IntOf of the greatest", impl.IntOf(math.MaxInt), -5},
		{"IntOf of the least", impl.IntOf(math.MinInt), 3},
		{"BoolOf(false)", impl.BoolOf(false), 2},
		{"BoolOf(true)", impl.BoolOf(true), 10},
		{"RefOf(VText, 0)", impl.RefOf(impl.VText, 0), 4},
		{"RefOf(VText, 3)", impl.RefOf(impl.VText, 3), 28},
		{"RefOf(VObj, 1)", impl.RefOf(impl.VObj, 1), 13},
		{"RefOf(VFun, 10)", impl.RefOf(impl.VFun, 10), 86},
		{"RefOf(VInner, 1999)", impl.RefOf(impl.VInner, 1999), 15999},
	} {
		if c.got != c.want {
			t.Errorf("%s is %d, not %d", c.name, c.got, c.want)
		}
	}
}

func TestP1MadeOf(t *testing.T) {
	check := func(v, kind, n int) {
		t.Helper()
		if impl.Kind(v) != kind || impl.Num(v) != n || !impl.ValueOk(v) {
			t.Errorf("%d is of kind %d and number %d, ok %v; it was made of %d and %d", v, impl.Kind(v), impl.Num(v), impl.ValueOk(v), kind, n)
		}
	}
	check(impl.VUndef, impl.VUndef, 0)
	check(impl.VNull, impl.VNull, 0)
	check(impl.BoolOf(false), impl.VBool, 0)
	check(impl.BoolOf(true), impl.VBool, 1)
	for _, n := range edgeNumbers() {
		check(impl.IntOf(n), impl.VInt, wantWrap(n))
	}
	for kind := impl.VText; kind <= impl.VInner; kind++ {
		for at := 0; at < impl.MaxWords; at++ {
			check(impl.RefOf(kind, at), kind, at)
		}
	}
}

func TestP1RefOfOthers(t *testing.T) {
	for _, at := range []int{-1, -2, -8, math.MinInt, impl.MaxWords, impl.MaxWords + 1, 2147483648, math.MaxInt} {
		for kind := impl.VText; kind <= impl.VInner; kind++ {
			if got := impl.RefOf(kind, at); got != impl.VUndef {
				t.Errorf("RefOf(%d, %d) is %d, not VUndef", kind, at, got)
			}
		}
	}
	for _, kind := range []int{impl.VUndef, impl.VNull, impl.VBool, impl.VInt, impl.VInner + 1, 12, 15, -1, -4, math.MinInt, math.MaxInt} {
		for _, at := range []int{0, 1, impl.MaxWords - 1, impl.MaxWords, -1, math.MinInt, math.MaxInt} {
			if got := impl.RefOf(kind, at); got != impl.VUndef {
				t.Errorf("RefOf(%d, %d) is %d, not VUndef", kind, at, got)
			}
		}
	}
}

func TestP1ValueOk(t *testing.T) {
	word := func(kind, n int) int { return 8*n + kind }
	for _, c := range []struct {
		kind        int
		least, most int
	}{
		{impl.VUndef, 0, 0},
		{impl.VNull, 0, 0},
		{impl.VBool, 0, 1},
		{impl.VInt, -2147483648, 2147483647},
		{impl.VText, 0, 1999},
		{impl.VObj, 0, 1999},
		{impl.VFun, 0, 1999},
		{impl.VInner, 0, 1999},
	} {
		for _, n := range []int{c.least, c.most} {
			if !impl.ValueOk(word(c.kind, n)) {
				t.Errorf("kind %d, number %d is refused", c.kind, n)
			}
		}
		for _, n := range []int{c.least - 1, c.most + 1, -1 << 60, 1<<60 - 1} {
			if impl.ValueOk(word(c.kind, n)) {
				t.Errorf("kind %d, number %d is taken for a value", c.kind, n)
			}
		}
	}
}

// Each function of chapter 1 at all edges, the greatest and the least int among them.
func TestP21Values(t *testing.T) {
	edges := edgeNumbers()
	for _, n := range edges {
		if got, want := impl.IntOf(n), 8*wantWrap(n)+3; got != want {
			t.Errorf("IntOf(%d) is %d, not %d", n, got, want)
		}
		if got, want := impl.Kind(n), leftOver(n, 8); got != want {
			t.Errorf("Kind(%d) is %d, not %d", n, got, want)
		}
		if got, want := impl.Num(n), wantNum(n); got != want {
			t.Errorf("Num(%d) is %d, not %d", n, got, want)
		}
		if got, want := impl.ValueOk(n), wantOk(n); got != want {
			t.Errorf("ValueOk(%d) is %v, not %v", n, got, want)
		}
		for _, at := range edges {
			want := 0
			if n >= 4 && n <= 7 && at >= 0 && at <= 1999 {
				want = 8*at + n
			}
			if got := impl.RefOf(n, at); got != want {
				t.Errorf("RefOf(%d, %d) is %d, not %d", n, at, got, want)
			}
		}
	}
}
