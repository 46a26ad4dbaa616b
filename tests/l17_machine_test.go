package tests

import (
	"fmt"
	"math"
	"runtime"
	"slices"
	"strconv"
	"strings"
	"sync"
	"testing"

	"loop.example/g00242/impl"
)

func TestP17Constants(t *testing.T) {
	if impl.MaxStack != 1500 || impl.MaxSteps != 4000 {
		t.Error("constants")
	}
	if len(shop(30).Words) != shopFree+30 || !slices.Contains(impl.Blocks(shop(30)), shopFree) || !slices.Contains(impl.Blocks(shop(30)), shopWaste) {
		t.Error("the shop", impl.Blocks(shop(30)))
	}
}

func TestP17New(t *testing.T) {
	for vars := range 13 {
		for names := 0; names <= vars; names += max(1, vars) {
			u := impl.Unit{Codes: []impl.Code{{Names: names, Vars: vars, Steps: []impl.Step{{Op: impl.OpUndef}, endStep()}}, codeOf()}, Texts: []string{"a"}}
			for _, words := range []int{math.MinInt, -1, 0, 1, 2, 3, vars, vars + 1, vars + 2, vars + 3, vars + 4, vars + 5, 100, 1999, 2000, 2001, math.MaxInt} {
				m, ok := impl.MachineNew(u, words)
				if words < vars+2 || words > 2000 {
					if ok || !sameMachine(m, impl.Machine{}) {
						t.Errorf("%d vars, %d words: %v %s", vars, words, ok, machineText(m))
					}
					continue
				}
				scope := holding(impl.BkScope, make([]int, vars+1)...)
				s := heapOf(scope)
				if left := words - vars - 2; left == 1 {
					s = heapOf(holding(impl.BkScope, make([]int, vars+2)...))
				} else if left > 1 {
					s = heapOf(scope, room(left))
				}
				want := impl.Machine{Unit: u, Slab: s, Frames: []impl.Frame{{Scope: ref(impl.VInner, 0)}}}
				if !ok || !sameMachine(m, want) || !impl.MachineOk(m) || !slices.Equal(impl.Roots(m), []int{7}) {
					t.Errorf("%d vars, %d words: %v %s, not %s", vars, words, ok, machineText(m), machineText(want))
				}
				checkMachine(t, "new", m, 0, 1, 100)
			}
		}
	}
}

func TestP17NewOfUnits(t *testing.T) {
	rnd := &dice{170}
	wrong := []impl.Unit{{}, {Codes: []impl.Code{}}, {Texts: []string{"a"}}, {Codes: []impl.Code{{}}}, {Codes: []impl.Code{{Vars: 13, Steps: []impl.Step{endStep()}}}}, unitOf(41, 0, 0), unitOf(1, 201, 0),
		{Codes: []impl.Code{{Steps: []impl.Step{{Op: impl.OpUndef}}}}}, {Codes: []impl.Code{codeOf(stepA(impl.OpText, 0))}}, {Codes: []impl.Code{codeOf(), {Steps: []impl.Step{{Op: 26}, endStep()}}}}}
	for range 2000 {
		wrong = append(wrong, anyUnit(rnd, 10))
	}
	made := 0
	for _, u := range wrong {
		for _, words := range []int{1, 2, 8, 14, 100, 2000, 2001} {
			m, ok := impl.MachineNew(u, words)
			can := wantUnitOk(u) && words <= 2000 && words >= u.Codes[0].Vars+2
			if ok != can || impl.MachineOk(m) != can || !can && !sameMachine(m, impl.Machine{}) || can && !sameUnit(m.Unit, u) {
				t.Fatalf("%d words of %s: %v %s", words, unitText(u), ok, machineText(m))
			}
			if can {
				made++
			}
		}
	}
	if made < 1000 {
		t.Error("too few:", made)
	}
	for _, n := range slices.Concat(compiledPrograms(t), livelyPrograms(171, 30)) {
		u, _ := impl.Compile(n)
		if m, ok := impl.MachineNew(u, 2000); !ok || !impl.MachineOk(m) || !sameUnit(m.Unit, u) {
			t.Errorf("%s: %v", treeText(n), ok)
		}
	}
}

func TestP17RootsOfAnyMachine(t *testing.T) {
	for _, m := range []impl.Machine{{}, {Stack: []int{3, -1, math.MaxInt}}, {Frames: []impl.Frame{{Scope: 9}, {Code: 4, Pc: 5, Scope: math.MinInt}}}, {Stack: []int{8, 0}, Frames: []impl.Frame{{Scope: 7}, {Scope: 0}, {Scope: 7}}, Over: true, Code: 9},
		{Stack: []int{}, Frames: []impl.Frame{}, Slab: impl.Slab{Words: []int{5}}}} {
		if got, want := impl.Roots(m), wantRoots(m); !slices.Equal(got, want) {
			t.Errorf("%v, not %v", got, want)
		}
	}
	if got := impl.Roots(shopMachine(stepA(impl.OpPop), 30, 11, 12)); !slices.Equal(got, []int{11, 12, ref(7, shopYard), ref(7, shopRoom)}) {
		t.Error(got)
	}
}

// okIs: MachineOk is so, and where it is not, Gc and MachineStep tell the zero machine.
func okIs(t *testing.T, what string, m impl.Machine, want bool) {
	t.Helper()
	if got := impl.MachineOk(m); got != want || wantMachineOk(m) != want {
		t.Errorf("%s: MachineOk is %v, of %s", what, got, machineText(m))
	}
	if want {
		return
	}
	for _, n := range []int{math.MinInt, -1, 0, 1, 99, 100, math.MaxInt} {
		if got := impl.Gc(m, n); !sameMachine(got, impl.Machine{}) {
			t.Errorf("%s: Gc by %d is %s", what, n, machineText(got))
		}
	}
	if got := impl.MachineStep(m); !sameMachine(got, impl.Machine{}) {
		t.Errorf("%s: MachineStep is %s", what, machineText(got))
	}
}

// What MachineOk asks for, one by one, met exactly and passed by one, in each phase.
func TestP17OkAsks(t *testing.T) {
	base := shopMachine(stepA(impl.OpPop), 30, ref(impl.VObj, shopChild), impl.IntOf(4), ref(impl.VFun, shopFar))
	for i, m := range phasesOf(base) {
		phase := fmt.Sprintf("state %d, phase %d: ", i, m.Marker.Phase)
		turned := func(what string, want bool, turn func(m *impl.Machine)) {
			t.Helper()
			other := machineClone(m)
			turn(&other)
			okIs(t, phase+what, other, want)
		}
		turned("as it is", true, func(m *impl.Machine) {})
		for _, count := range []int{0, 1, 2, 1499, 1500, 1501, 1502, 3000} {
			turned(fmt.Sprint(count, " values"), count <= 1500, func(m *impl.Machine) { m.Stack = make([]int, count) })
		}
		for _, count := range []int{0, 1, 2, 29, 30, 31, 32, 33, 100} {
			turned(fmt.Sprint(count, " frames"), count >= 1 && count <= 31, func(m *impl.Machine) { m.Frames = slices.Repeat(m.Frames[:1], count) })
		}
		for _, code := range []int{math.MinInt, -1, 0, 1, 2, 3, 4, 5, 100, math.MaxInt} {
			for at := range 2 {
				turned(fmt.Sprint("frame of code ", code), code >= 0 && code <= 3, func(m *impl.Machine) { m.Frames[at].Code, m.Frames[at].Pc = code, 1 })
			}
		}
		for _, pc := range []int{math.MinInt, -1, 0, 1, 2, 3, 4, math.MaxInt} {
			turned(fmt.Sprint("Pc ", pc), pc >= 0 && pc <= 2, func(m *impl.Machine) { m.Frames[1].Pc = pc })
			turned(fmt.Sprint("Pc of the first frame ", pc), pc >= 0 && pc <= 1, func(m *impl.Machine) { m.Frames[0].Pc = pc })
		}
		for _, code := range []int{math.MinInt, -1, 0, 1, 2, 3, 4, 5, 6, 7, math.MaxInt} {
			for _, over := range []bool{false, true} {
				turned(fmt.Sprint("Code ", code), code >= 0 && code <= 5, func(m *impl.Machine) { m.Code, m.Over = code, over })
			}
		}
		for what, lines := range map[string][]string{"no": nil, "odd": oddTexts(), "long": {strings.Repeat("x", 1000)}, "many": make([]string, 10000)} {
			turned(what+" lines", true, func(m *impl.Machine) { m.Lines = lines })
		}
		turned("no unit", false, func(m *impl.Machine) { m.Unit = impl.Unit{} })
		turned("a unit whose step is none", false, func(m *impl.Machine) { m.Unit.Codes[2].Steps[0].Op = 26 })
		turned("a code that does not return", false, func(m *impl.Machine) { m.Unit.Codes[3].Steps[1].Op = impl.OpUndef })
		turned("a long text", false, func(m *impl.Machine) { m.Unit.Texts[6] += "x" })
		turned("a phase that is none", false, func(m *impl.Machine) { m.Marker.Phase += 3 })
		turned("At below 0", false, func(m *impl.Machine) { m.Marker.At = -1 })
		turned("a place in both lists", false, func(m *impl.Machine) { m.Marker.Grey, m.Marker.Black = []int{shopYard}, []int{shopYard} })
		turned("a free one black", false, func(m *impl.Machine) { m.Marker.Black = append(m.Marker.Black, shopFree) })
		turned("no slab", false, func(m *impl.Machine) { m.Slab = impl.Slab{} })
		turned("a slab that is none", false, func(m *impl.Machine) { m.Slab.Words[shopYard] += 8 })
		turned("a slab that is too long", false, func(m *impl.Machine) { m.Slab.Words = append(m.Slab.Words, heapOf(room(1970)).Words...) })
	}
}

// Which values may be roots, in each phase: of PhSweep those alone that lead to what is black.
func TestP17OkRoots(t *testing.T) {
	base := shopMachine(stepA(impl.OpPop), 30, ref(impl.VObj, shopChild))
	values := []int{8, 9, 18, -6, ref(impl.VInt, 2147483648), ref(impl.VInt, theLeast), ref(impl.VInt, theLeast-1), ref(impl.VBool, 2), math.MinInt, math.MinInt + 4, math.MinInt + 7, math.MaxInt, math.MaxInt - 2}
	for kind := range 8 {
		for at := -1; at <= shopFree+31; at++ {
			values = append(values, ref(kind, at))
		}
	}
	roots, scopes, white := 0, 0, 0
	for _, m := range phasesOf(base) {
		g := sightOf(m.Slab)
		for _, v := range values {
			kind, at := leftOver(v, 8), wantNum(v)
			isRoot := kind < 4 && wantOk(v) || kind >= 4 && g.leadsTo(v, kind, []int{0, 0, 0, 0, impl.BkText, impl.BkObj, impl.BkFun, impl.BkScope}[kind])
			if isRoot && kind > 3 && m.Marker.Phase == impl.PhSweep && !slices.Contains(m.Marker.Black, at) {
				isRoot = false
				white++
			}
			other := machineClone(m)
			other.Stack = append(other.Stack, v, impl.VNull)
			okIs(t, fmt.Sprint("the value ", v), other, isRoot)
			isScope := isRoot && kind == 7
			for i := range 2 {
				other = machineClone(m)
				other.Frames[i].Scope = v
				okIs(t, fmt.Sprint("the scope ", v), other, isScope)
			}
			if isRoot {
				roots++
			}
			if isScope {
				scopes++
			}
		}
	}
	if roots < 200 || scopes < 20 || white < 20 {
		t.Error("too few:", roots, scopes, white)
	}
}

// While it sweeps, what nobody met may be anything, and what is black may not.
func TestP17OkWhileItSweeps(t *testing.T) {
	m := impl.Machine{Unit: shopUnit(stepA(impl.OpUndef)), Slab: shop(30), Frames: []impl.Frame{{Scope: ref(impl.VInner, shopRoom)}}, Marker: sweeping(0, shopYard, shopRoom, shopP, shopObj, shopCell)}
	okIs(t, "as it is", m, true)
	wrong := 0
	for _, at := range []int{shopNone + 1, shopAb + 1, shopAb + 2, shopAb + 3, shopChild + 1, shopChild + 2, shopFun + 1, shopFun + 2, shopLost + 1, shopLost + 6, shopWaste + 1, shopFree + 1} {
		for _, w := range []int{-1, 256, 1000, math.MaxInt, math.MinInt, ref(impl.VObj, 3), ref(impl.VInner, shopCell)} {
			other := machineClone(m)
			other.Slab.Words[at] = w
			okIs(t, fmt.Sprint("word ", at, " is ", w), other, true)
			other.Marker = marking(nil, nil)
			right := sightOf(other.Slab).heap()
			okIs(t, fmt.Sprint("word ", at, " is ", w, ", marked"), other, right)
			if !right {
				wrong++
			}
		}
	}
	if wrong < 40 {
		t.Error("too few that are wrong else:", wrong)
	}
	for at, w := range map[int]int{shopYard + 1: ref(impl.VInner, shopCell), shopYard + 2: ref(impl.VObj, shopChild), shopRoom + 3: ref(impl.VText, shopLost), shopP + 1: 2, shopP + 2: 256, shopObj + 1: ref(impl.VObj, shopChild), shopObj + 2: impl.VNull, shopCell + 1: ref(impl.VText, shopAb), shopCell + 2: ref(impl.VInner, shopYard)} {
		other := machineClone(m)
		other.Slab.Words[at] = w
		okIs(t, fmt.Sprint("word ", at, " is ", w), other, false)
	}
	for _, black := range [][]int{{shopYard, shopRoom, shopP, shopObj}, {shopYard, shopRoom, shopObj, shopCell}, {shopYard, shopP, shopObj, shopCell}, {shopRoom, shopP, shopObj, shopCell}, nil, {shopRoom, shopYard, shopP, shopObj, shopCell}} {
		other := machineClone(m)
		other.Marker.Black = black
		okIs(t, fmt.Sprint("black ", black), other, false)
	}
}

// Gc by hand: one round at each phase.
func TestP17GcByHand(t *testing.T) {
	m := shopMachine(stepA(impl.OpPop), 30, ref(impl.VText, shopAb), ref(impl.VFun, shopFun), impl.IntOf(3))
	m.Over, m.Code = true, 3
	at := func(marker impl.Marker, s impl.Slab) impl.Machine {
		out := machineClone(m)
		out.Marker, out.Slab = marker, s
		return out
	}
	reached := []int{shopYard, shopRoom, shopP, shopAb, shopObj, shopCell, shopFun}
	start, s := marking([]int{shopAb, shopFun, shopYard, shopRoom}, nil), shop(30)
	for _, n := range []int{1, 2, 50, 98, 99} {
		if got := impl.Gc(m, n); !sameMachine(got, at(start, s)) {
			t.Errorf("started by %d: %s", n, machineText(got))
		}
	}
	for n, want := range map[int]impl.Marker{
		1: marking([]int{shopFun, shopYard, shopRoom}, []int{shopAb}), 2: marking([]int{shopYard, shopRoom}, []int{shopAb, shopFun}), 3: marking([]int{shopRoom, shopObj}, []int{shopYard, shopAb, shopFun}),
		6: marking([]int{shopCell}, []int{shopYard, shopRoom, shopP, shopAb, shopObj, shopFun}), 7: sweeping(0, reached...), 8: sweeping(0, reached...), 99: sweeping(0, reached...),
	} {
		if got := impl.Gc(at(start, s), n); !sameMachine(got, at(want, s)) {
			t.Errorf("marked by %d: %s", n, machineText(got))
		}
	}
	// roots that were put behind the start are met ahead of the steps
	if got := impl.Gc(at(marking([]int{shopCell}, []int{shopObj}), s), 1); !sameMachine(got, at(marking([]int{shopAb, shopFun, shopYard, shopRoom, shopP}, []int{shopObj, shopCell}), s)) {
		t.Errorf("marked on: %s", machineText(got))
	}
	given := func(s impl.Slab, places ...int) impl.Slab {
		for _, at := range places {
			s = impl.Give(s, at)
		}
		return s
	}
	for n, want := range map[int]impl.Machine{
		1: at(sweeping(shopRoom, reached...), s), 3: at(sweeping(shopNone, reached...), s), 4: at(sweeping(shopAb, reached...), given(s, shopNone)), 8: at(sweeping(shopFun, reached...), given(s, shopNone, shopChild)),
		11: at(sweeping(shopWaste, reached...), given(s, shopNone, shopChild, shopFar, shopLost)), 12: at(impl.Marker{}, given(s, shopNone, shopChild, shopFar, shopLost, shopWaste)), 99: at(impl.Marker{}, given(s, shopNone, shopChild, shopFar, shopLost, shopWaste)),
	} {
		if got := impl.Gc(at(sweeping(0, reached...), s), n); !sameMachine(got, want) {
			t.Errorf("swept by %d: %s, not %s", n, machineText(got), machineText(want))
		}
	}
	tidy, roots := impl.Tidy(s, impl.Roots(m))
	want := at(impl.Marker{}, tidy)
	want.Stack = roots[:3]
	want.Frames[0].Scope, want.Frames[1].Scope = roots[3], roots[4]
	for i, one := range phasesOf(m) {
		for _, n := range []int{100, 101, 2000, math.MaxInt} {
			if got := impl.Gc(one, n); !sameMachine(got, want) {
				t.Errorf("state %d, tidied by %d: %s, not %s", i, n, machineText(got), machineText(want))
			}
		}
		for _, n := range []int{0, -1, -99, -100, math.MinInt} {
			if got := impl.Gc(one, n); !sameMachine(got, one) {
				t.Errorf("state %d by %d: %s", i, n, machineText(got))
			}
		}
		for _, n := range []int{1, 2, 3, 7, 50, 98, 99} {
			gced(t, "by hand", one, n)
			checkMachine(t, "by hand", one, n)
		}
	}
}

func TestP17PlainPuts(t *testing.T) {
	full := make([]int, 1500)
	for s, want := range map[impl.Step]int{
		stepA(impl.OpUndef): impl.VUndef, stepA(impl.OpNull): impl.VNull, stepA(impl.OpTrue): impl.BoolOf(true), stepA(impl.OpFalse): impl.BoolOf(false), stepA(impl.OpInt): impl.IntOf(0), stepA(impl.OpInt, 1): impl.IntOf(1),
		stepA(impl.OpInt, -1): impl.IntOf(-1), stepA(impl.OpInt, 2147483647): impl.IntOf(2147483647), stepA(impl.OpInt, theLeast): impl.IntOf(theLeast),
	} {
		goesTo(t, "put", shopMachine(s, 30), shop(30), want)
		goesTo(t, "put, no room", shopMachine(s, 0, ref(impl.VObj, shopChild)), shop(0), ref(impl.VObj, shopChild), want)
		goesTo(t, "put as the last one", shopMachine(s, 30, full[1:]...), shop(30), append(slices.Clone(full[1:]), want)...)
		endsWith(t, "put on a full one", shopMachine(s, 30, full...), impl.OutBad)
	}
}

func TestP17Texts(t *testing.T) {
	for text, at := range map[int]int{textP: shopP, textNone: shopNone, textAb: shopAb, textLost: shopLost} {
		goesTo(t, shopTexts[text], shopMachine(stepA(impl.OpText, text), 30), shop(30), ref(impl.VText, at))
		goesTo(t, shopTexts[text]+", no room", shopMachine(stepA(impl.OpText, text), 0, impl.VNull), shop(0), impl.VNull, ref(impl.VText, at))
	}
	for _, text := range []int{textNew, textProto} {
		s, v, _ := impl.TextPut(shop(30), shopTexts[text])
		goesTo(t, shopTexts[text], shopMachine(stepA(impl.OpText, text), 30), s, v)
		if v != ref(impl.VText, shopFree) {
			t.Error("put at", v)
		}
	}
	full := make([]int, 1500)
	for text := range shopTexts {
		endsWith(t, "a full one", shopMachine(stepA(impl.OpText, text), 30, full...), impl.OutBad)
		endsWith(t, "a full one, no room", shopMachine(stepA(impl.OpText, text), 0, full...), impl.OutBad)
		everywhere(t, "the last one", shopMachine(stepA(impl.OpText, text), 40, full[1:]...))
	}
}

func TestP17LoadAndStore(t *testing.T) {
	p, obj, full := ref(impl.VText, shopP), ref(impl.VObj, shopObj), make([]int, 1500)
	has := map[[2]int]int{{0, 0}: p, {0, 1}: impl.VUndef, {1, 0}: impl.IntOf(5), {1, 1}: obj}
	for _, depth := range []int{0, 1, 2, 3, 40} {
		for _, place := range []int{0, 1, 2, 11} {
			load, store := stepA(impl.OpLoad, depth, place), stepA(impl.OpStore, depth, place)
			what := fmt.Sprint(depth, " ", place)
			v, there := has[[2]int{depth, place}]
			if !there {
				endsWith(t, "load "+what, shopMachine(load, 30, impl.VNull), impl.OutBad)
				for _, v := range shopValues() {
					endsWith(t, "store "+what, shopMachine(store, 30, impl.VNull, v), impl.OutBad)
				}
				continue
			}
			goesTo(t, "load "+what, shopMachine(load, 30, impl.VNull), shop(30), impl.VNull, v)
			goesTo(t, "load as the last one "+what, shopMachine(load, 0, full[1:]...), shop(0), append(slices.Clone(full[1:]), v)...)
			endsWith(t, "load on a full one "+what, shopMachine(load, 30, full...), impl.OutBad)
			endsWith(t, "store nothing "+what, shopMachine(store, 30), impl.OutBad)
			for _, v := range shopValues() {
				m := shopMachine(store, 30, impl.VNull, v)
				if v == ref(impl.VInner, shopYard) {
					endsWith(t, "store a scope "+what, m, impl.OutBad)
					continue
				}
				s, _ := impl.VarSet(shop(30), ref(impl.VInner, shopRoom), depth, place, v)
				goesTo(t, "store "+what, m, s, impl.VNull)
			}
			everywhere(t, "store of a full one "+what, shopMachine(store, 30, full...))
		}
	}
	// a scope may have a word more: a value lies there too
	m := shopMachine(stepA(impl.OpLoad, 0, 2), 30)
	m.Slab.Words = append(slices.Clone(m.Slab.Words[:shopFree]), heapOf(holding(impl.BkScope, ref(impl.VInner, shopRoom), 0, 0, impl.IntOf(9)), room(20)).Words...)
	m.Frames[1].Scope = ref(impl.VInner, shopFree)
	goesTo(t, "a word more", m, m.Slab, impl.IntOf(9))
}

func TestP17GetAndPut(t *testing.T) {
	obj, child, s := ref(impl.VObj, shopObj), ref(impl.VObj, shopChild), shop(30)
	for what, x := range map[string]struct{ text, obj, want int }{
		"its own": {textP, obj, impl.IntOf(7)}, "its prototype's": {textP, child, impl.IntOf(7)}, "none has it": {textAb, child, impl.VUndef}, "a text that none has as its name": {textLost, obj, impl.VUndef}, "the empty name": {textNone, obj, impl.VUndef},
		"no such text": {textNew, child, impl.VUndef}, "a prototype": {textProto, child, obj}, "no prototype": {textProto, obj, impl.VNull},
	} {
		goesTo(t, what, shopMachine(stepA(impl.OpGet, x.text), 30, impl.VNull, x.obj), s, impl.VNull, x.want)
		goesTo(t, what+", no room", shopMachine(stepA(impl.OpGet, x.text), 0, x.obj), shop(0), x.want)
		goesTo(t, what+", a full one", shopMachine(stepA(impl.OpGet, x.text), 0, append(make([]int, 1499), x.obj)...), shop(0), append(make([]int, 1499), x.want)...)
	}
	for text := range shopTexts {
		endsWith(t, "get of nothing", shopMachine(stepA(impl.OpGet, text), 30), impl.OutBad)
		endsWith(t, "put of nothing", shopMachine(stepA(impl.OpPut, text), 30), impl.OutBad)
		endsWith(t, "put of one alone", shopMachine(stepA(impl.OpPut, text), 30, obj), impl.OutBad)
		for _, v := range shopValues() {
			if leftOver(v, 8) != 5 {
				endsWith(t, "get of another kind", shopMachine(stepA(impl.OpGet, text), 30, v), impl.OutType)
			}
		}
	}
	for _, v := range shopValues() {
		kind := leftOver(v, 8)
		for _, o := range []int{obj, child} {
			m := shopMachine(stepA(impl.OpPut, textProto), 30, impl.VNull, o, v)
			if to, ok := impl.ProtoSet(s, o, v); ok {
				goesTo(t, "a prototype", m, to, impl.VNull)
			} else {
				endsWith(t, "a prototype of another kind", m, impl.OutType)
			}
			for _, text := range []int{textP, textNone, textAb, textNew, textLost} {
				m := shopMachine(stepA(impl.OpPut, text), 30, impl.VNull, o, v)
				if kind == 7 {
					endsWith(t, "a scope", m, impl.OutBad)
					continue
				}
				to, name, _ := impl.TextPut(s, shopTexts[text])
				to, ok := impl.PropSet(to, o, name, v)
				if !ok {
					t.Fatal("no room")
				}
				goesTo(t, "put "+shopTexts[text], m, to, impl.VNull)
			}
		}
		if kind != 5 {
			for _, x := range shopValues() {
				want := impl.OutType
				if leftOver(x, 8) == 7 {
					want = impl.OutBad
				}
				endsWith(t, "put into another kind", shopMachine(stepA(impl.OpPut, textAb), 30, v, x), want)
				endsWith(t, "a prototype of another kind", shopMachine(stepA(impl.OpPut, textProto), 30, v, x), impl.OutType)
			}
		}
	}
	goesTo(t, "put of a full one", shopMachine(stepA(impl.OpPut, textProto), 30, append(make([]int, 1498), obj, impl.VNull)...), s, make([]int, 1498)...)
}

func TestP17ObjectsAndFields(t *testing.T) {
	s := shop(30)
	to, o, _ := impl.ObjNew(s, impl.VNull)
	goesTo(t, "an object", shopMachine(stepA(impl.OpObj), 30, impl.VNull), to, impl.VNull, o)
	endsWith(t, "an object on a full one", shopMachine(stepA(impl.OpObj), 30, make([]int, 1500)...), impl.OutBad)
	endsWith(t, "an object on a full one, no room", shopMachine(stepA(impl.OpObj), 0, make([]int, 1500)...), impl.OutBad)
	for i := range 4 {
		to, f, _ := impl.FunNew(s, i, ref(impl.VInner, shopRoom))
		goesTo(t, "a function", shopMachine(stepA(impl.OpFun, i), 30, impl.VNull), to, impl.VNull, f)
		endsWith(t, "a function on a full one", shopMachine(stepA(impl.OpFun, i), 0, make([]int, 1500)...), impl.OutBad)
	}
	obj, child := ref(impl.VObj, shopObj), ref(impl.VObj, shopChild)
	for text := range textLong {
		field := stepA(impl.OpField, text)
		endsWith(t, "a field of nothing", shopMachine(field, 30), impl.OutBad)
		endsWith(t, "a field of one alone", shopMachine(field, 30, obj), impl.OutBad)
		for _, v := range shopValues() {
			for _, o := range shopValues() {
				m := shopMachine(field, 30, impl.VNull, o, v)
				if leftOver(o, 8) != 5 || leftOver(v, 8) == 7 {
					endsWith(t, "a field of another kind", m, impl.OutBad)
					continue
				}
				to, name, _ := impl.TextPut(s, shopTexts[text])
				to, ok := impl.PropSet(to, o, name, v)
				if !ok {
					t.Fatal("no room")
				}
				goesTo(t, "a field "+shopTexts[text], m, to, impl.VNull, o)
			}
		}
	}
	full := append(make([]int, 1498), child, obj)
	to, _ = impl.PropSet(s, child, ref(impl.VText, shopAb), obj)
	goesTo(t, "a field of a full one", shopMachine(stepA(impl.OpField, textAb), 30, full...), to, full[:1499]...)
	// a field may have the name proto: it is no prototype
	to, name, _ := impl.TextPut(s, "proto")
	to, _ = impl.PropSet(to, child, name, obj)
	goesTo(t, "a field proto", shopMachine(stepA(impl.OpField, textProto), 30, child, obj), to, child)
}

// An object whose cells go in a circle: what it has is told, but nothing is put in it, whatever room there is.
func TestP17CellsInACircle(t *testing.T) {
	for _, free := range []int{0, 30} {
		for _, text := range []int{textP, textAb, textNew, textNone} {
			turned := func(s impl.Step, stack ...int) impl.Machine {
				m := shopMachine(s, free, stack...)
				m.Slab.Words[shopCell+3] = ref(impl.VInner, shopCell)
				return m
			}
			obj, child := ref(impl.VObj, shopObj), ref(impl.VObj, shopChild)
			endsWith(t, "put", turned(stepA(impl.OpPut, text), obj, impl.VNull), impl.OutBad)
			endsWith(t, "field", turned(stepA(impl.OpField, text), obj, impl.VNull), impl.OutBad)
			want := impl.VUndef
			if text == textP {
				want = impl.IntOf(7)
			}
			m := turned(stepA(impl.OpGet, text), child)
			goesTo(t, "get", m, m.Slab, want)
			m = turned(stepA(impl.OpPut, textProto), obj, child)
			to, _ := impl.ProtoSet(m.Slab, obj, child)
			goesTo(t, "a prototype", m, to)
			m.Slab = to
			m.Stack = []int{child}
			m.Unit = shopUnit(stepA(impl.OpGet, text))
			goesTo(t, "prototypes in a circle", m, m.Slab, want)
		}
	}
}

func TestP17Call(t *testing.T) {
	s, yard := shop(30), ref(impl.VInner, shopYard)
	fun, far := ref(impl.VFun, shopFun), ref(impl.VFun, shopFar)
	values := []int{ref(impl.VObj, shopChild), ref(impl.VText, shopAb), impl.IntOf(9), impl.BoolOf(true)}
	for code, sizes := range map[int][2]int{1: {2, 3}, 2: {0, 0}, 3: {12, 12}, 0: {0, 2}} {
		for count := range 5 {
			m := shopMachine(stepA(impl.OpCall, count), 30, append([]int{impl.VNull, fun}, values[:count]...)...)
			m.Slab.Words[shopFun+1] = code
			to, own, _ := impl.ScopeNew(m.Slab, yard, sizes[1])
			for i, v := range values[:min(count, sizes[0])] {
				to, _ = impl.VarSet(to, own, 0, i, v)
			}
			want := machineClone(m)
			want.Slab, want.Stack = to, []int{impl.VNull}
			want.Frames[1].Pc = 1
			want.Frames = append(want.Frames, impl.Frame{Code: code, Scope: own})
			what := fmt.Sprintf("code %d, %d values", code, count)
			if got := impl.MachineStep(m); !sameMachine(got, want) {
				t.Errorf("%s: %s, not %s", what, machineText(got), machineText(want))
			}
			everywhere(t, what, m)
			for less := range count + 1 {
				short := machineClone(m)
				short.Stack = m.Stack[len(m.Stack)-less:]
				endsWith(t, what+", too few", short, impl.OutBad)
			}
		}
	}
	for count := range 4 {
		call := stepA(impl.OpCall, count)
		for _, v := range shopValues() {
			if leftOver(v, 8) != 6 {
				endsWith(t, "no function", shopMachine(call, 30, append([]int{fun, v}, values[:count]...)...), impl.OutType)
			}
		}
		endsWith(t, "a function of no code", shopMachine(call, 30, append([]int{far}, values[:count]...)...), impl.OutBad)
		// a scope is none of the values that names have; what is more is nothing
		for at := range count {
			stack := append([]int{fun}, values[:count]...)
			stack[1+at] = yard
			m := shopMachine(call, 30, stack...)
			if at < 2 {
				endsWith(t, "a scope", m, impl.OutBad)
			} else {
				everywhere(t, "a scope too many", m)
				if impl.MachineStep(m).Over {
					t.Error("a scope too many: it is over")
				}
			}
			m.Stack[0] = impl.VNull
			endsWith(t, "a scope, and no function", m, impl.OutType)
		}
	}
	for frames := 1; frames <= 31; frames++ {
		m := shopMachine(stepA(impl.OpCall, 0), 30, fun)
		m.Frames = append(slices.Repeat(m.Frames[:1], frames-1), m.Frames[1])
		if frames < 31 {
			everywhere(t, "frames", m)
			if got := impl.MachineStep(m); got.Over || len(got.Frames) != frames+1 {
				t.Errorf("%d frames: %s", frames, machineText(got))
			}
			continue
		}
		endsWith(t, "too many calls", m, impl.OutCalls)
		m.Slab = shop(0)
		endsWith(t, "too many calls, no room", m, impl.OutCalls)
		m.Stack = []int{impl.VNull}
		endsWith(t, "too many calls, no function", m, impl.OutType)
		m.Stack = nil
		endsWith(t, "too many calls, nothing", m, impl.OutBad)
		m.Stack = []int{far}
		endsWith(t, "too many calls, no code", m, impl.OutBad)
		m.Unit = shopUnit(stepA(impl.OpCall, 1))
		m.Stack = []int{fun, yard}
		endsWith(t, "too many calls, a scope", m, impl.OutBad)
	}
	// as many values as may be
	m := shopMachine(stepA(impl.OpCall, 200), 30, append([]int{fun}, slices.Repeat([]int{impl.IntOf(4)}, 200)...)...)
	to, own, _ := impl.ScopeNew(s, yard, 3)
	to, _ = impl.VarSet(to, own, 0, 0, impl.IntOf(4))
	to, _ = impl.VarSet(to, own, 0, 1, impl.IntOf(4))
	if got := impl.MachineStep(m); got.Over || len(got.Stack) != 0 || !sameWords(got.Slab, to) {
		t.Errorf("200 values: %s", machineText(got))
	}
	everywhere(t, "200 values", m)
	m.Stack = m.Stack[1:]
	endsWith(t, "200 values alone", m, impl.OutBad)
}

func TestP17Return(t *testing.T) {
	for _, v := range shopValues() {
		m := shopMachine(stepA(impl.OpReturn), 30, impl.IntOf(8), v)
		want := machineClone(m)
		want.Frames = want.Frames[:1]
		if got := impl.MachineStep(m); !sameMachine(got, want) {
			t.Errorf("%s, not %s", machineText(got), machineText(want))
		}
		everywhere(t, "return", m)
		for pc := range 2 {
			last := machineClone(m)
			last.Frames = last.Frames[1:]
			if pc == 1 {
				last.Frames[0].Pc = 2
			}
			for i, at := range phasesOf(last) {
				want = machineClone(at)
				want.Stack, want.Over, want.Code = want.Stack[:1], true, impl.OutEnd
				want.Frames[0].Pc = 2 * pc
				if got := impl.MachineStep(at); !sameMachine(got, want) {
					t.Errorf("the last frame, state %d: %s, not %s", i, machineText(got), machineText(want))
				}
			}
			everywhere(t, "the last frame", last)
		}
	}
	m := shopMachine(stepA(impl.OpReturn), 30)
	endsWith(t, "nothing", m, impl.OutBad)
	m.Frames = m.Frames[1:]
	endsWith(t, "nothing, the last frame", m, impl.OutBad)
	everywhere(t, "a full one", shopMachine(stepA(impl.OpReturn), 30, make([]int, 1500)...))
}

// Each two values with each op that takes two, and each with each that takes one: what it comes to by chapter 16.
func TestP17EachTwoValues(t *testing.T) {
	s := shop(30)
	for i, a := range shopValues() {
		for j, b := range shopValues() {
			numbers, texts := leftOver(a, 8) == 3 && leftOver(b, 8) == 3, leftOver(a, 8) == 4 && leftOver(b, 8) == 4
			n, m := wantNum(a), wantNum(b)
			for op, want := range map[int]int{impl.OpAdd: impl.IntOf(n + m), impl.OpSub: impl.IntOf(n - m), impl.OpMul: impl.IntOf(n * m), impl.OpLess: impl.BoolOf(n < m)} {
				machine := shopMachine(stepA(op), 30, impl.VNull, a, b)
				switch {
				case numbers:
					goesTo(t, "numbers", machine, s, impl.VNull, want)
				case texts && op == impl.OpAdd:
					to, v, _ := impl.TextPut(s, impl.TextOf(s, a)+impl.TextOf(s, b))
					goesTo(t, "texts", machine, to, impl.VNull, v)
				default:
					endsWith(t, "another kind", machine, impl.OutType)
				}
			}
			goesTo(t, "same", shopMachine(stepA(impl.OpSame), 30, impl.VNull, a, b), s, impl.VNull, impl.BoolOf(i == j))
		}
	}
	for op := impl.OpAdd; op <= impl.OpSame; op++ {
		endsWith(t, "nothing", shopMachine(stepA(op), 30), impl.OutBad)
		endsWith(t, "one alone", shopMachine(stepA(op), 30, impl.IntOf(1)), impl.OutBad)
		everywhere(t, "a full one", shopMachine(stepA(op), 30, slices.Repeat([]int{impl.IntOf(1)}, 1500)...))
	}
}

func TestP17NumbersGoRound(t *testing.T) {
	edges := []int{0, 1, -1, 2, 46341, 65536, -65536, 1 << 30, 2147483647, 2147483646, -2147483647, theLeast}
	for _, a := range edges {
		for _, b := range edges {
			for op, want := range map[int]int{impl.OpAdd: int(int32(a) + int32(b)), impl.OpSub: int(int32(a) - int32(b)), impl.OpMul: int(int32(a) * int32(b))} {
				if got := impl.MachineStep(shopMachine(stepA(op), 0, ref(3, a), ref(3, b))); got.Over || !slices.Equal(got.Stack, []int{ref(3, want)}) {
					t.Errorf("%d of %d and %d: %s", op, a, b, machineText(got))
				}
			}
			if got := impl.MachineStep(shopMachine(stepA(impl.OpLess), 0, ref(3, a), ref(3, b))); got.Over || !slices.Equal(got.Stack, []int{impl.BoolOf(a < b)}) {
				t.Errorf("%d < %d: %s", a, b, machineText(got))
			}
		}
	}
}

func TestP17NotElsePrintPop(t *testing.T) {
	lines := map[int]string{impl.VUndef: "undefined", impl.VNull: "null", impl.BoolOf(true): "true", impl.BoolOf(false): "false", impl.IntOf(0): "0", impl.IntOf(-3): "-3", ref(impl.VText, shopAb): "ab", ref(impl.VText, shopNone): "",
		ref(impl.VObj, shopObj): "object", ref(impl.VObj, shopChild): "object", ref(impl.VFun, shopFun): "function"}
	no := []int{impl.VUndef, impl.VNull, impl.BoolOf(false), impl.IntOf(0), ref(impl.VText, shopNone)}
	s := shop(30)
	for _, v := range shopValues() {
		goesTo(t, "not", shopMachine(stepA(impl.OpNot), 30, impl.VNull, v), s, impl.VNull, impl.BoolOf(slices.Contains(no, v)))
		goesTo(t, "pop", shopMachine(stepA(impl.OpPop), 30, impl.VNull, v), s, impl.VNull)
		for goal := range 3 {
			m := shopMachine(stepA(impl.OpElse, goal), 30, impl.VNull, v)
			want := machineClone(m)
			want.Stack, want.Frames[1].Pc = want.Stack[:1], 1
			if slices.Contains(no, v) {
				want.Frames[1].Pc = goal
			}
			if got := impl.MachineStep(m); !sameMachine(got, want) {
				t.Errorf("else: %s, not %s", machineText(got), machineText(want))
			}
			everywhere(t, "else", m)
		}
		m := shopMachine(stepA(impl.OpPrint), 30, impl.VNull, v)
		line, told := lines[v]
		if !told {
			endsWith(t, "print of a scope", m, impl.OutBad)
			continue
		}
		want := machineClone(m)
		want.Stack, want.Frames[1].Pc, want.Lines = want.Stack[:1], 1, []string{"ahead", line}
		if got := impl.MachineStep(m); !sameMachine(got, want) {
			t.Errorf("print: %s, not %s", machineText(got), machineText(want))
		}
		everywhere(t, "print", m)
	}
	for _, op := range []int{impl.OpNot, impl.OpElse, impl.OpPrint, impl.OpPop} {
		endsWith(t, "nothing", shopMachine(stepA(op), 30), impl.OutBad)
		everywhere(t, "a full one", shopMachine(stepA(op), 30, make([]int, 1500)...))
	}
	for goal := range 3 {
		for _, stack := range [][]int{nil, {impl.VNull}, make([]int, 1500)} {
			m := shopMachine(stepA(impl.OpJump, goal), 30, stack...)
			want := machineClone(m)
			want.Frames[1].Pc = goal
			if got := impl.MachineStep(m); !sameMachine(got, want) {
				t.Errorf("jump: %s, not %s", machineText(got), machineText(want))
			}
			everywhere(t, "jump", m)
		}
	}
	for n, line := range map[int]string{2147483647: "2147483647", theLeast: "-2147483648", 10: "10", -1: "-1"} {
		if got := impl.MachineStep(shopMachine(stepA(impl.OpPrint), 0, ref(3, n))); len(got.Lines) != 2 || got.Lines[1] != line {
			t.Errorf("%d: %q", n, got.Lines)
		}
	}
}

// Two texts that are alike, as a heap may have them: alike by their bytes; and a text that is longer than one may be put.
func TestP17OddTexts(t *testing.T) {
	m := shopMachine(stepA(impl.OpSame), 30, ref(impl.VText, shopAb), ref(impl.VText, shopFree))
	long := strings.Repeat("y", 31)
	m.Slab.Words = append(m.Slab.Words[:shopFree], heapOf(holding(impl.BkText, 2, 'a', 'b', 0), holding(impl.BkText, textBody(long)...), holding(impl.BkText, 2, 255, 0), room(9)).Words...)
	longAt, oddAt := ref(impl.VText, shopFree+5), ref(impl.VText, shopFree+5+33)
	goesTo(t, "twins", m, m.Slab, impl.BoolOf(true))
	on := func(op int, stack ...int) impl.Machine {
		other := machineClone(m)
		other.Unit, other.Stack = shopUnit(stepA(op)), stack
		return other
	}
	goesTo(t, "no twins", on(impl.OpSame, longAt, oddAt), m.Slab, impl.BoolOf(false))
	goesTo(t, "not", on(impl.OpNot, longAt), m.Slab, impl.BoolOf(false))
	endsWith(t, "a long one and none", on(impl.OpAdd, longAt, ref(impl.VText, shopNone)), impl.OutType)
	endsWith(t, "none and a long one", on(impl.OpAdd, ref(impl.VText, shopNone), longAt), impl.OutType)
	for _, v := range []int{longAt, oddAt} {
		want := "\xff\x00"
		if v == longAt {
			want = long
		}
		printing := on(impl.OpPrint, v)
		if got := impl.MachineStep(printing); got.Over || !slices.Equal(got.Lines, []string{"ahead", want}) {
			t.Errorf("print: %s", machineText(got))
		}
		everywhere(t, "print", printing)
	}
	for a := range 32 {
		one, two, _ := impl.TextPut(shop(300), strings.Repeat("a", min(a, 30)))
		one, three, _ := impl.TextPut(one, strings.Repeat("b", max(30-a, 0)))
		joining := shopMachine(stepA(impl.OpAdd), 300, two, three)
		joining.Slab = one
		if a <= 30 {
			to, v, _ := impl.TextPut(one, strings.Repeat("a", a)+strings.Repeat("b", 30-a))
			goesTo(t, "30 bytes", joining, to, v)
		}
		joining.Slab, three, _ = impl.TextPut(one, strings.Repeat("c", min(31-a+a/31, 30)))
		joining.Stack = []int{two, three}
		if a > 0 && a < 31 {
			endsWith(t, "31 bytes", joining, impl.OutType)
		}
	}
}

// What is over is as it is, however it ended and in each phase, but for Gc.
func TestP17Over(t *testing.T) {
	for code := range 6 {
		m := shopMachine(stepA(impl.OpPop), 30, impl.VNull, ref(impl.VObj, shopChild))
		m.Over, m.Code = true, code
		for i, at := range phasesOf(m) {
			for range 2 {
				if got := impl.MachineStep(at); !sameMachine(got, at) {
					t.Errorf("state %d, code %d: %s, of %s", i, code, machineText(got), machineText(at))
				}
			}
			checkMachine(t, "over", at, 0, 1, 5, 100)
			for _, plan := range [][]int{nil, {1}, {100}, {5, 0, 100}} {
				if got := impl.MachineRun(at, plan, 100); !sameMachine(got, at) {
					t.Errorf("state %d, code %d, run by %v: %s", i, code, plan, machineText(got))
				}
			}
		}
		m.Over = false
		got := impl.MachineStep(m)
		if got.Over || got.Code != code || len(got.Stack) != 1 {
			t.Errorf("not over, with code %d: %s", code, machineText(got))
		}
		everywhere(t, "not over", m)
	}
}

// What a step writes is Shade, what it takes is Fresh; of PhMark, and of PhSweep.
func TestP17Writing(t *testing.T) {
	obj, child, fun, ab := ref(impl.VObj, shopObj), ref(impl.VObj, shopChild), ref(impl.VFun, shopFun), ref(impl.VText, shopAb)
	const first = shopFree
	for what, x := range map[string]struct {
		step        impl.Step
		stack       []int
		grey, black []int
	}{
		"int": {stepA(impl.OpInt, 4), nil, nil, nil}, "a text that is there": {stepA(impl.OpText, textLost), nil, nil, nil}, "a new text": {stepA(impl.OpText, textNew), nil, nil, []int{first}},
		"load": {stepA(impl.OpLoad, 1, 1), nil, nil, nil}, "store": {stepA(impl.OpStore, 1, 1), []int{child}, []int{shopChild}, nil}, "store no block": {stepA(impl.OpStore, 1, 1), []int{impl.IntOf(3)}, nil, nil},
		"store what is there": {stepA(impl.OpStore, 1, 1), []int{obj}, []int{shopObj}, nil}, "get": {stepA(impl.OpGet, textP), []int{child}, nil, nil}, "get of no such text": {stepA(impl.OpGet, textNew), []int{child}, nil, nil},
		"get of a prototype": {stepA(impl.OpGet, textProto), []int{child}, nil, nil}, "put what it has": {stepA(impl.OpPut, textP), []int{obj, fun}, []int{shopFun}, nil}, "put what it has, no block": {stepA(impl.OpPut, textP), []int{obj, impl.VNull}, nil, nil},
		"put what its prototype has": {stepA(impl.OpPut, textP), []int{child, fun}, []int{shopP, shopFun}, []int{first}}, "put by a text that is there": {stepA(impl.OpPut, textLost), []int{obj, ab}, []int{shopLost, shopAb}, []int{first}},
		"put its name": {stepA(impl.OpPut, textAb), []int{obj, ab}, []int{shopAb}, []int{first}}, "put itself": {stepA(impl.OpPut, textAb), []int{obj, obj}, []int{shopAb, shopObj}, []int{first}},
		"put by a new text": {stepA(impl.OpPut, textNew), []int{obj, child}, []int{shopChild}, []int{first, first + 5}}, "put no block by a new text": {stepA(impl.OpPut, textNew), []int{obj, impl.IntOf(2)}, nil, []int{first, first + 5}},
		"put a prototype": {stepA(impl.OpPut, textProto), []int{obj, child}, []int{shopChild}, nil}, "put no prototype": {stepA(impl.OpPut, textProto), []int{child, impl.VNull}, nil, nil},
		"obj": {stepA(impl.OpObj), nil, nil, []int{first}}, "fun": {stepA(impl.OpFun, 2), nil, []int{shopRoom}, []int{first}},
		"field it has": {stepA(impl.OpField, textP), []int{obj, fun}, []int{shopFun}, nil}, "a new field": {stepA(impl.OpField, textAb), []int{child, fun}, []int{shopAb, shopFun}, []int{first}}, "a field by a new text": {stepA(impl.OpField, textNew), []int{child, obj}, []int{shopObj}, []int{first, first + 5}},
		"call": {stepA(impl.OpCall, 0), []int{fun}, []int{shopYard}, []int{first}}, "call with one": {stepA(impl.OpCall, 1), []int{fun, child}, []int{shopYard, shopChild}, []int{first}},
		"call with two": {stepA(impl.OpCall, 2), []int{fun, ab, child}, []int{shopYard, shopAb, shopChild}, []int{first}}, "call with three": {stepA(impl.OpCall, 3), []int{fun, impl.VNull, child, ab}, []int{shopYard, shopChild}, []int{first}},
		"call with itself": {stepA(impl.OpCall, 2), []int{fun, fun, fun}, []int{shopYard, shopFun}, []int{first}},
		"add":              {stepA(impl.OpAdd), []int{ab, ab}, nil, []int{first}}, "add to what is there": {stepA(impl.OpAdd), []int{ab, ref(impl.VText, shopNone)}, nil, nil}, "add numbers": {stepA(impl.OpAdd), []int{3, 3}, nil, nil},
		"same": {stepA(impl.OpSame), []int{ab, child}, nil, nil}, "not": {stepA(impl.OpNot), []int{child}, nil, nil}, "return": {stepA(impl.OpReturn), []int{child}, nil, nil}, "print": {stepA(impl.OpPrint), []int{ab}, nil, nil},
		"pop": {stepA(impl.OpPop), []int{child}, nil, nil}, "else": {stepA(impl.OpElse, 0), []int{ab}, nil, nil},
	} {
		m := shopMachine(x.step, 30, x.stack...)
		m.Marker = marking(nil, nil)
		if got := impl.MachineStep(m); got.Over || !sameMarker(got.Marker, marking(x.grey, x.black)) {
			t.Errorf("%s, marked: %s, not %v, %v", what, machineText(got), x.grey, x.black)
		}
		checkMachine(t, what, m, 1)
		m.Marker = marking([]int{shopRoom, shopChild}, []int{shopYard, shopP})
		grey := append([]int{shopRoom, shopChild}, slices.DeleteFunc(slices.Clone(x.grey), func(at int) bool { return slices.Contains([]int{shopRoom, shopChild, shopYard, shopP}, at) })...)
		if got := impl.MachineStep(m); got.Over || !sameMarker(got.Marker, marking(grey, append([]int{shopYard, shopP}, x.black...))) {
			t.Errorf("%s, marked further: %s, not %v", what, machineText(got), grey)
		}
		checkMachine(t, what, m, 1)
		black := []int{shopYard, shopRoom, shopP, shopObj, shopCell, shopChild, shopFun}
		if slices.Contains(x.stack, ab) {
			black = []int{shopYard, shopRoom, shopP, shopAb, shopObj, shopCell, shopChild, shopFun}
		}
		for _, at := range []int{shopYard, shopNone} {
			m.Marker = sweeping(at, black...)
			want := append(slices.Clone(black), x.black...)
			switch what {
			case "a text that is there", "put by a text that is there":
				want = append(want, shopLost)
			case "add to what is there":
				m.Marker.Black = append(m.Marker.Black, shopNone)
				want = append(want, shopNone)
			case "a new field", "put its name", "put itself":
				want = append(want, shopAb)
			}
			slices.Sort(want)
			slices.Sort(m.Marker.Black)
			want = slices.Compact(want)
			if got := impl.MachineStep(m); got.Over || !sameMarker(got.Marker, sweeping(at, want...)) || !sound(got) {
				t.Errorf("%s, swept: %s, not %v", what, machineText(got), want)
			}
			checkMachine(t, what, m, 1)
		}
		m.Marker = impl.Marker{}
		if got := impl.MachineStep(m); got.Over || !sameMarker(got.Marker, impl.Marker{}) {
			t.Errorf("%s, at rest: %s", what, machineText(got))
		}
	}
}

// A text that nobody could reach when it was swept past, and that comes back: it stays, whatever is swept then. One that is not right does not come back.
func TestP17TextsThatComeBack(t *testing.T) {
	black := []int{shopYard, shopRoom, shopP, shopObj, shopCell, shopChild}
	child := ref(impl.VObj, shopChild)
	for _, at := range []int{shopYard, shopRoom, shopP, shopNone} {
		for _, x := range []struct {
			step  impl.Step
			stack []int
		}{{stepA(impl.OpText, textLost), []int{child}}, {stepA(impl.OpText, textAb), []int{child}}, {stepA(impl.OpText, textNone), []int{child}}, {stepA(impl.OpPut, textLost), []int{child, child, child}}, {stepA(impl.OpField, textLost), []int{child, child}}, {stepA(impl.OpField, textNone), []int{child, impl.VNull}}} {
			m := shopMachine(x.step, 30, x.stack...)
			m.Marker = sweeping(at, black...)
			text := shopTexts[x.step.A]
			next := impl.MachineStep(m)
			v, _ := impl.TextFind(shop(30), text)
			if next.Over || !sameMarker(next.Marker, impl.Fresh(impl.Fresh(m.Marker, wantNum(v)), wantNum(v))) && x.step.Op == impl.OpText {
				t.Errorf("%q: %s", text, machineText(next))
			}
			for _, n := range []int{1, 2, 3, 99} {
				end := next
				for end.Marker.Phase != impl.PhRest {
					end = gced(t, text, end, n)
				}
				if got, ok := impl.TextFind(end.Slab, text); !ok || got != v || seen(end) != seen(next) {
					t.Errorf("%q swept by %d: %s", text, n, machineText(end))
				}
			}
		}
		// it is there, but not right: another one is put
		for _, turn := range [][2]int{{shopLost + 1, 4}, {shopLost + 1, 6}, {shopLost + 1, -1}, {shopLost + 1, math.MaxInt}, {shopLost + 2, 'l' + 256}, {shopLost + 6, -'!'}, {shopLost, 8*8 + impl.BkText}} {
			m := shopMachine(stepA(impl.OpText, textLost), 30, child)
			m.Marker = sweeping(at, black...)
			m.Slab.Words[turn[0]] = turn[1]
			if turn[0] == shopLost {
				m.Slab.Words = slices.Insert(m.Slab.Words, shopLost+7, 1)
			}
			next := impl.MachineStep(m)
			if next.Over || !slices.Equal(next.Stack, []int{child, ref(impl.VText, len(m.Slab.Words)-30)}) || !sound(next) {
				t.Errorf("turned at %v: %s", turn, machineText(next))
			}
			checkMachine(t, "not right", m, 1, 100)
		}
	}
}

// Each step that takes a block, with so much room and so much that nobody reaches: what fits is taken, else all is tidied and it is taken again, else there is no room.
func TestP17RoomForEach(t *testing.T) {
	obj, child, fun, ab := ref(impl.VObj, shopObj), ref(impl.VObj, shopChild), ref(impl.VFun, shopFun), ref(impl.VText, shopAb)
	wasted := []struct {
		roots []int
		words int
	}{{[]int{ref(impl.VText, shopLost), ref(impl.VObj, shopWaste)}, 0}, {[]int{ref(impl.VText, shopLost)}, 3}, {[]int{ref(impl.VObj, shopWaste)}, 7}, {nil, 10}}
	for what, x := range map[string]struct {
		step  impl.Step
		stack []int
		words int
	}{
		"text": {stepA(impl.OpText, textNew), nil, 5}, "a long text": {stepA(impl.OpText, textLong), nil, 32}, "obj": {stepA(impl.OpObj), nil, 3}, "fun": {stepA(impl.OpFun, 3), nil, 3},
		"put by what is there": {stepA(impl.OpPut, textAb), []int{child, fun}, 4}, "put by a new text": {stepA(impl.OpPut, textNew), []int{child, obj}, 9}, "put what it has": {stepA(impl.OpPut, textP), []int{obj, child}, 0},
		"field by what is there": {stepA(impl.OpField, textAb), []int{child, child}, 4}, "field by a new text": {stepA(impl.OpField, textNew), []int{child, fun}, 9}, "field by a long text": {stepA(impl.OpField, textLong), []int{child, fun}, 36}, "field it has": {stepA(impl.OpField, textP), []int{obj, ab}, 0},
		"call": {stepA(impl.OpCall, 2), []int{fun, child, ab}, 5}, "call of more": {stepA(impl.OpCall, 4), []int{fun, child, ab, obj, child}, 5}, "add": {stepA(impl.OpAdd), []int{ab, ab}, 6},
	} {
		for _, waste := range wasted {
			for free := 0; free <= x.words+4; free++ {
				if free == 1 {
					continue
				}
				stack := append(slices.Clone(waste.roots), ref(impl.VText, shopNone), ref(impl.VFun, shopFar), fun, ab, child)
				m := shopMachine(x.step, free, append(stack, x.stack...)...)
				name := fmt.Sprintf("%s, %d free, %d wasted", what, free, waste.words)
				fits := free+waste.words >= x.words
				got := impl.MachineStep(m)
				switch {
				case !fits:
					endsWith(t, name, m, impl.OutRoom)
				case free >= x.words:
					if got.Over || impl.Waste(got.Slab, impl.Roots(got)) < waste.words {
						t.Errorf("%s: tidied, or over: %s", name, machineText(got))
					}
				default:
					if !sameMachine(got, impl.MachineStep(impl.Gc(m, 100))) || impl.Waste(got.Slab, impl.Roots(got)) > 40 {
						t.Errorf("%s: %s", name, machineText(got))
					}
				}
				for i, at := range phasesOf(m) {
					if i%3 != free%3 {
						continue
					}
					next := impl.MachineStep(at)
					if next.Over == fits || !sound(next) || !sameMachine(next, wantStep(at)) {
						t.Errorf("%s, state %d: %s, of %s", name, i, machineText(next), machineText(at))
					}
					if fits && (seen(next) != seen(got) || !sameButSlab(next, got)) {
						t.Errorf("%s, state %d: %s, at rest %s", name, i, machineText(next), machineText(got))
					}
				}
			}
		}
	}
}

// A step that puts a text and then has no room for its cell: what it had put is put again, where all is tidied. Of one word alone that is left over the block that is taken has it.
func TestP17RoomForTextAndCell(t *testing.T) {
	child := ref(impl.VObj, shopChild)
	for _, step := range []impl.Step{stepA(impl.OpPut, textNew), stepA(impl.OpField, textNew), stepA(impl.OpPut, textLost), stepA(impl.OpField, textLost)} {
		for _, free := range []int{0, 2, 3, 4, 5, 6, 7, 8, 9} {
			m := shopMachine(step, free, ref(impl.VText, shopNone), ref(impl.VFun, shopFar), ref(impl.VFun, shopFun), ref(impl.VText, shopAb), child, child, child)
			text := len(shopTexts[step.A]) + 2
			for i, at := range phasesOf(m) {
				got := impl.MachineStep(at)
				if got.Over != (10+free < text+4) || !sound(got) || !sameMachine(got, wantStep(at)) {
					t.Errorf("%v, %d free, state %d: %s", step, free, i, machineText(got))
				}
				if !got.Over {
					end := impl.Gc(got, 100)
					used := len(end.Slab.Words) - impl.Room(end.Slab) - (shopFree - 10)
					if used < text+4 || used > text+6 || i == 0 && free < text+4 && step.A == textNew && (used > text+4) != (10+free == text+5) {
						t.Errorf("%v, %d free, state %d: %d words are used", step, free, i, used)
					}
				}
			}
		}
	}
}

// machineSources: programs that make what is soon lost, and keep what is not.
func machineSources() []string {
	return []string{
		"", "print 1;", "return 5;", "let x = 1; print x + 2; return x; print 3;",
		"let l = null; let i = 0; while (i < 6) { l = {v: i, next: l}; i = i + 1; } while (!(l == null)) { print l.v; l = l.next; }",
		`let t = ""; let i = 0; while (i < 9) { t = t + "ab"; print t; i = i + 1; } print t + t;`,
		`let f = function(n) { if (n < 2) { return n; } return f(n - 1) + f(n - 2); }; print f(5);`,
		"let f = function(n) { print n; return f(n + 1); }; f(0);", "let f = function(n) { if (n == 29) { return 7; } return f(n + 1); }; print f(0); print f(-1);",
		"let mk = function() { let c = 0; return function() { c = c + 1; return c; }; }; let a = mk(); let b = mk(); print a(); print a(); print b(); print a(); mk()(); print b();",
		`let a = {name: "a"}; let b = {}; b.proto = a; a.proto = b; print b.name; print b.none; a.name = "x" + "y"; print b.name; b.name = 4; print a.name; print a.proto == b; b.proto = null; print b.proto;`,
		`print "lost"; "lo" + "st"; let o = {}; o.k = "lost"; "x" + "y"; print o.k; print o.k == "lo" + "st"; o.xy = 1; print o.xy; print "x" + "y";`,
		`let i = 0; while (i < 12) { let o = {a: {b: {c: i}}}; o.a.b.proto = o; if (i == 7) { let kept = o; } i = i + 1; } print kept.a.b.a.b.c; print kept.a.b.c;`,
		`let fs = {}; let i = 0; while (i < 4) { fs = {f: function(j) { return function() { return j * 10; }; }(i), next: fs}; i = i + 1; } while (fs.next) { print fs.f(); fs = fs.next; }`,
		"print 1; print 2 + null; print 3;", "let o = {}; print o.x.y;", "1.p = 2;", "let o = {}; o.proto = 3;", "print 1; null(2);", `print "abcdefghijklmnopqrst" + "abcdefghijklmnopqrst";`, "print function(a, b) { return a + b; }(1, 2, 3); print function(a, b) { print a; return b; }(1);",
		"while (1) { let o = {p: {q: 1}}; print o.p.q; }", `let t = "a"; let i = 0; while (1) { let o = {}; o.a = t + "b"; o.b = t + "c"; i = i + 1; print o.b; }`,
		"let o = null; while (1) { o = {o: o}; print 1; }", "print undefined; print null; print true; print false; print {}; print function() { }; print \"\"; print 0 - 7; print !0; print !\"\"; print !\"a\"; print 1 == 1; print \"a\" == \"b\"; print {} == {};",
		`let Animal = {says: function(a) { return a.name + a.sound; }}; let mk = function(name) { let a = {name: name}; a.proto = Animal; return a; }; let dog = mk("dog"); dog.sound = "woof"; let cat = mk("cat"); cat.sound = "meow"; print dog.says(dog); print cat.says(cat);`,
	}
}

func machineOf(t *testing.T, n impl.Node, words int) impl.Machine {
	t.Helper()
	u, code := impl.Compile(n)
	m, ok := impl.MachineNew(u, words)
	if code != 0 || !ok {
		t.Fatalf("%d words: %d %v of %s", words, code, ok, treeText(n))
	}
	return m
}

// checkTold: what a machine told is what the program means, or begins it where steps or room are out.
func checkTold(t *testing.T, what string, m impl.Machine, plain impl.Outcome) {
	t.Helper()
	switch {
	case m.Over && m.Code < 3:
		if !sameOut(impl.Outcome{Code: m.Code, Lines: m.Lines}, plain) {
			t.Errorf("%s: %d %.300q, not %d %.300q", what, m.Code, m.Lines, plain.Code, plain.Lines)
		}
	case m.Over && m.Code != 4:
		t.Errorf("%s: over with %d", what, m.Code)
	case len(m.Lines) > len(plain.Lines) || !slices.Equal(m.Lines, plain.Lines[:len(m.Lines)]):
		t.Errorf("%s: %d %.300q, which does not begin %.300q", what, m.Code, m.Lines, plain.Lines)
	}
}

// walked: so many steps, with the numbers of the plan ahead of them: sound behind each, each sees the same behind Gc, each step is as the tests reckon it, and where one is over but for the end, all is as it was.
func walked(t *testing.T, what string, m impl.Machine, plan []int, steps int) impl.Machine {
	t.Helper()
	for i := 0; i < steps && !m.Over; i++ {
		name := fmt.Sprintf("%s by %v, step %d", what, plan, i)
		if len(plan) > 0 {
			n := plan[i%len(plan)]
			next := gced(t, name, m, n)
			if want := wantGc(m, n); i%3 == 0 && !sameMachine(next, want) {
				t.Fatalf("%s: Gc by %d: %s, not %s", name, n, machineText(next), machineText(want))
			}
			m = next
		}
		next := impl.MachineStep(m)
		if want := wantStep(m); !sameMachine(next, want) {
			t.Fatalf("%s: %s, not %s", name, machineText(next), machineText(want))
		}
		if !sound(next) || !sameUnit(next.Unit, m.Unit) || len(next.Lines) < len(m.Lines) || !slices.Equal(next.Lines[:len(m.Lines)], m.Lines) {
			t.Fatalf("%s: not sound: %s, of %s", name, machineText(next), machineText(m))
		}
		if next.Over && next.Code != 0 {
			as := machineClone(m)
			as.Over, as.Code = true, next.Code
			if !sameMachine(next, as) {
				t.Fatalf("%s: over, and turned: %s, of %s", name, machineText(next), machineText(m))
			}
		}
		m = next
	}
	return m
}

func machinePlans() [][]int {
	return [][]int{nil, {1}, {2, -5, 0, 7}, {100}, {1, 0, 0, 5, 100}, {99}, {3, 0}, {1, 1, 1, 1, 1, 1, 1, 1, 1, 1, 1, 1, 1, 1, 1, 1, 1, 1, 1, math.MaxInt}, {math.MinInt, 1, 98}, {0, 0, 0, 0, 0, 101}, {math.MinInt}, {4, 4, 0, 0, 0, 0, 0, 0, 0}}
}

func TestP17Programs(t *testing.T) {
	t.Parallel()
	codes := [6]int{}
	for i, src := range machineSources() {
		n := mustParse(t, src)
		plain := impl.Plain(n, 200000)
		for j, plan := range machinePlans() {
			if j > 4 && (i+j)%5 > 0 {
				continue
			}
			for _, words := range []int{130, 60 + 7*((i+j)%7)} {
				m := walked(t, src, machineOf(t, n, words), plan, 130)
				checkTold(t, src, m, plain)
				codes[m.Code]++
			}
		}
	}
	if codes[0] < 100 || codes[1] < 20 || codes[4] < 5 {
		t.Error("too few of a kind:", codes)
	}
}

func anyPlan(rnd *dice) []int {
	var plan []int
	for range rnd.below(9) {
		plan = append(plan, []int{0, 1, 2, 3, -1, 10, 50, 99, 100, 101, 0, 1, math.MaxInt, math.MinInt}[rnd.below(14)])
	}
	return plan
}

func TestP17LivelyPrograms(t *testing.T) {
	t.Parallel()
	rnd := &dice{172}
	for i, n := range livelyPrograms(173, 60) {
		m := walked(t, strconv.Itoa(i), machineOf(t, n, 140+rnd.below(100)), anyPlan(rnd), 150)
		checkTold(t, treeText(n), m, impl.Plain(n, 200000))
	}
}

// Whatever the plan, and however much room, what is printed is the same, as long as room and steps are not out.
func TestP17WhateverThePlan(t *testing.T) {
	t.Parallel()
	rnd := &dice{174}
	var programs []impl.Node
	for _, src := range machineSources() {
		programs = append(programs, mustParse(t, src))
	}
	programs = append(programs, livelyPrograms(175, 70)...)
	programs = append(programs, compiledPrograms(t)...)
	codes := [6]int{}
	for i, n := range programs {
		plain := impl.Plain(n, 200000)
		for j, plan := range append(machinePlans(), anyPlan(rnd)) {
			words := []int{300, 100 + rnd.below(200)}[j%2]
			if i%10 == 0 {
				words = 2000
			}
			m := impl.MachineRun(machineOf(t, n, words), plan, 700)
			if !sound(m) {
				t.Errorf("%s by %v: %s", treeText(n), plan, machineText(m))
			}
			checkTold(t, treeText(n), m, plain)
			codes[m.Code]++
		}
	}
	if codes[0] < 500 || codes[1] < 200 || codes[4] < 20 {
		t.Error("too few of a kind:", codes)
	}
}

// Room from what is needed at first up to much: with each, what is told begins what the program means; and there is a size from which on it ends, whatever the plan.
func TestP17EachSize(t *testing.T) {
	t.Parallel()
	for _, src := range append(machineSources()[4:7], machineSources()[10:14]...) {
		n := mustParse(t, src)
		plain := impl.Plain(n, 200000)
		first := machineOf(t, n, 2000)
		least := wantNum(first.Slab.Words[0])
		for j, plan := range [][]int{nil, {1}, {100}, {3, 0, 0}} {
			ended := false
			for words := least; words <= 400; words += 1 + words/30 {
				if words == least+1 {
					continue
				}
				m := impl.MachineRun(machineOf(t, n, words), plan, 1500)
				checkTold(t, fmt.Sprintf("%s with %d words", src, words), m, plain)
				if !sound(m) || ended && j == 0 && m.Code == impl.OutRoom {
					t.Errorf("%s with %d words by %v: %s", src, words, plan, machineText(m))
				}
				ended = m.Over && m.Code != impl.OutRoom
			}
			if !ended {
				t.Errorf("%s by %v: no room in 400 words", src, plan)
			}
		}
	}
}

// How many steps are done, by hand: each round of the loop has five, the fourth of which prints.
func TestP17HowManySteps(t *testing.T) {
	m := machineOf(t, mustParse(t, "while (1) { print 1; }"), 20)
	for _, steps := range []int{math.MinInt, math.MinInt + 1, -4000, -1, 0, 1, 3, 4, 5, 8, 9, 99, 100, 3998, 3999, 4000, 4001, 4004, 5000, 1 << 32, math.MaxInt} {
		done := min(max(steps, 0), 4000)
		for _, plan := range [][]int{nil, {}, {1}, {100, 0}} {
			got := impl.MachineRun(m, plan, steps)
			if got.Over || got.Frames[0].Pc != done%5 || len(got.Lines) != (done+1)/5 || got.Code != 0 {
				t.Errorf("%d steps by %v: %d lines, at %v, over %v", steps, plan, len(got.Lines), got.Frames, got.Over)
			}
		}
	}
	ends := machineOf(t, mustParse(t, "print 1; print 2;"), 20)
	for steps := range 12 {
		got := impl.MachineRun(ends, nil, steps)
		if got.Over != (steps > 5) || got.Frames[0].Pc != min(steps, 5) || len(got.Lines) != min(steps/2, 2) {
			t.Errorf("%d steps: %s", steps, machineText(got))
		}
		if got.Over && (!sameMachine(impl.MachineRun(got, []int{100}, 4000), got) || len(got.Stack) != 0) {
			t.Errorf("over behind %d steps: %s", steps, machineText(got))
		}
	}
}

// A run is Gc by the numbers of the plan, one behind the other and from the first one again, and steps between them.
func TestP17RunIsGcAndSteps(t *testing.T) {
	t.Parallel()
	rnd := &dice{176}
	check := func(m impl.Machine, plan []int, steps int) {
		t.Helper()
		got := impl.MachineRun(m, plan, steps)
		for i := 0; i < min(steps, 4000) && !m.Over; i++ {
			n := 0
			if len(plan) > 0 {
				n = plan[i%len(plan)]
			}
			m = impl.MachineStep(impl.Gc(m, n))
		}
		if !sameMachine(got, m) {
			t.Errorf("%d steps by %v: %s, not %s", steps, plan, machineText(got), machineText(m))
		}
	}
	plans := append(machinePlans(), edgeNumbers(), []int{}, []int{7, 0, 100, 3, 50, 0, 0, 0, 1, 1, 1, 99, 100, 2, 2, 2, 2, 2, 1, 1, 1, 0, 0, 5})
	for i, n := range append(livelyPrograms(177, 40), mustParse(t, machineSources()[4]), mustParse(t, machineSources()[12])) {
		m := machineOf(t, n, 150+10*(i%10))
		for _, plan := range plans {
			check(m, plan, []int{0, 1, 2, 5, 23, 24, 25, 60, 120}[rnd.below(9)])
		}
	}
	for i, n := range livelyPrograms(178, 60) {
		m := machineOf(t, n, 150+10*(i%10))
		a, b := rnd.below(100), rnd.below(100)
		whole := impl.MachineRun(m, nil, a+b)
		if parts := impl.MachineRun(impl.MachineRun(m, nil, a), nil, b); !sameMachine(whole, parts) {
			t.Errorf("%d and %d steps: %s, not %s", a, b, machineText(parts), machineText(whole))
		}
		turned := impl.Gc(impl.MachineRun(m, nil, a), 100)
		if impl.MachineRun(turned, []int{0, -1}, b).Code == impl.OutEnd && !sameButSlab(impl.MachineRun(turned, nil, b), whole) && whole.Code != impl.OutRoom {
			t.Errorf("tidied behind %d steps: another end", a)
		}
	}
	// what is not right: no steps leave it as it is, and so does one that is over; else it is zero
	wrong := machineOf(t, mustParse(t, "print 1;"), 20)
	wrong.Code, wrong.Lines = 9, []string{"a"}
	for _, steps := range []int{math.MinInt, -1, 0, 1, 5, 4000, math.MaxInt} {
		for _, plan := range [][]int{nil, {1}, {100, 0}} {
			want := wrong
			if steps > 0 {
				want = impl.Machine{}
			}
			if got := impl.MachineRun(wrong, plan, steps); !sameMachine(got, want) {
				t.Errorf("%d steps of what is not right: %s", steps, machineText(got))
			}
			over := machineClone(wrong)
			over.Over = true
			if got := impl.MachineRun(over, plan, steps); !sameMachine(got, over) {
				t.Errorf("%d steps of what is not right, over: %s", steps, machineText(got))
			}
		}
	}
	// a black block that leads to one that was not met: it is right while it marks, and not any more when it goes on to sweep
	m := shopMachine(stepA(impl.OpJump, 0), 30)
	m.Marker = marking(nil, []int{shopYard, shopRoom})
	okIs(t, "not met", m, true)
	okIs(t, "not met, then swept", impl.Gc(m, 1), false)
	for _, plan := range [][]int{nil, {0}, {1}, {0, 0, 5}, {100}, {0, 100}, {-1, 99}} {
		for steps := range 5 {
			check(m, plan, steps)
		}
	}
}

// anyStore: blocks of every kind in any order, with any links and values that are right, texts of few bytes, free blocks between and behind.
func anyStore(rnd *dice, frees int) impl.Slab {
	var kinds []int
	for kind, n := range []int{frees, 2 + rnd.below(3), 1 + rnd.below(3), 1 + rnd.below(4), 1 + rnd.below(3), 1 + rnd.below(3)} {
		kinds = append(kinds, slices.Repeat([]int{kind}, n)...)
	}
	order := shuffled(rnd, len(kinds))
	places, at := map[int][]int{}, 0
	bodies := make([]body, len(kinds))
	texts := []string{"", "a", "b", "ab", "proto", "c", "a\xff"}
	for i := range order {
		kind := kinds[order[i]]
		words := make([]int, []int{1 + rnd.below(6), 1, 2, 3, 2, 1 + rnd.below(4)}[kind]+rnd.below(2))
		if kind == impl.BkText {
			words = append(textBody(texts[rnd.below(len(texts))]), make([]int, rnd.below(2))...)
		}
		bodies[i] = holding(kind, words...)
		places[kind] = append(places[kind], at)
		at += len(words) + 1
	}
	to := func(kind, block int) int { return ref(kind, places[block][rnd.below(len(places[block]))]) }
	value := func() int {
		if rnd.below(2) == 0 {
			return []int{impl.VUndef, impl.VNull, impl.BoolOf(true), impl.BoolOf(false), impl.IntOf(rnd.below(7) - 3)}[rnd.below(5)]
		}
		kind := rnd.below(3)
		return to([]int{impl.VText, impl.VObj, impl.VFun}[kind], []int{impl.BkText, impl.BkObj, impl.BkFun}[kind])
	}
	some := func(none int, kind, block int) int {
		if rnd.below(3) == 0 {
			return none
		}
		return to(kind, block)
	}
	for _, b := range bodies {
		w := b.words
		switch b.kind {
		case impl.BkObj:
			w[0], w[1] = some(impl.VNull, impl.VObj, impl.BkObj), some(impl.VUndef, impl.VInner, impl.BkCell)
		case impl.BkCell:
			w[0], w[1], w[2] = to(impl.VText, impl.BkText), value(), some(impl.VUndef, impl.VInner, impl.BkCell)
			if rnd.below(2) == 0 {
				w[2] = impl.VUndef
			}
		case impl.BkFun:
			w[0], w[1] = []int{0, 0, 0, 1, 1, 2, 3, 99}[rnd.below(8)], to(impl.VInner, impl.BkScope)
		case impl.BkScope:
			w[0] = some(impl.VUndef, impl.VInner, impl.BkScope)
			for n := range w[1:] {
				w[1+n] = value()
			}
		}
	}
	if n := rnd.below(25); n > 1 && frees > 0 {
		bodies = append(bodies, holding(impl.BkFree, slices.Repeat([]int{-7}, n-1)...))
	}
	return heapOf(bodies...)
}

// anySteps: a right unit of a few codes with any steps, whose numbers are mostly such as lead somewhere.
func anySteps(rnd *dice) impl.Unit {
	u := impl.Unit{Texts: []string{"a", "proto", "", "ab", "new", "b"}[:3+rnd.below(4)]}
	codes := 1 + rnd.below(3)
	for range codes {
		c := impl.Code{Vars: rnd.below(4)}
		c.Names = rnd.below(c.Vars + 1)
		count := 2 + rnd.below(5)
		for range count - 1 {
			s := impl.Step{Op: 1 + rnd.below(25)}
			if rnd.below(4) == 0 {
				s.Op = []int{impl.OpCall, impl.OpCall, impl.OpPut, impl.OpField}[rnd.below(4)]
			}
			number := func(what string) int {
				switch what {
				case "number":
					return rnd.below(9) - 4
				case "text":
					return rnd.below(len(u.Texts))
				case "depth", "many":
					return rnd.below(3)
				case "place":
					return rnd.below(4)
				case "step":
					return rnd.below(count)
				case "code":
					return rnd.below(codes)
				}
				return 0
			}
			s.A, s.B = number(opTable[s.Op].a), number(opTable[s.Op].b)
			c.Steps = append(c.Steps, s)
		}
		c.Steps = append(c.Steps, endStep())
		u.Codes = append(u.Codes, c)
	}
	return u
}

// anyMachine: a machine that is mostly right, in any phase; of one that sweeps, what nobody met is anything now and then. One in wild is wrong in little.
func anyMachine(rnd *dice, wild int) impl.Machine {
	frees := rnd.below(4)
	m := impl.Machine{Unit: anySteps(rnd), Slab: anyStore(rnd, frees), Code: rnd.below(6), Over: rnd.below(12) == 0, Lines: oddTexts()[:rnd.below(3)]}
	scopes := scopesOf(m.Slab)
	for range 1 + rnd.below(3) {
		code := rnd.below(len(m.Unit.Codes))
		m.Frames = append(m.Frames, impl.Frame{Code: code, Pc: rnd.below(len(m.Unit.Codes[code].Steps)), Scope: scopes[rnd.below(len(scopes))]})
	}
	if rnd.below(10) == 0 {
		m.Frames = slices.Repeat(m.Frames[:1], 31)
	}
	values := slices.Concat(functionsOf(m.Slab), objectsOf(m.Slab), objectsOf(m.Slab), namesOf(m.Slab), namesOf(m.Slab), []int{impl.VUndef, impl.VNull, impl.BoolOf(true), impl.IntOf(3), impl.IntOf(-5), impl.IntOf(0), scopes[0]})
	if frees == 0 {
		// mostly all is reached, and there is no room
		m.Stack = slices.Concat(functionsOf(m.Slab), objectsOf(m.Slab), namesOf(m.Slab), scopes)
	}
	for range rnd.below(6) {
		m.Stack = append(m.Stack, values[rnd.below(len(values))])
	}
	switch rnd.below(24) {
	case 0:
		m.Stack = append(make([]int, 1496+rnd.below(6)), m.Stack...)
		m.Stack = m.Stack[:min(len(m.Stack), 1500)]
	case 1, 2, 3, 4, 5, 6, 7, 8, 9, 10:
		frame := m.Frames[len(m.Frames)-1]
		m.Stack = append(m.Stack, wanted(rnd, m.Slab, m.Unit.Codes[frame.Code].Steps[frame.Pc], values)...)
	}
	switch rnd.below(3) {
	case 1:
		m.Marker = impl.MarkStep(m.Slab, impl.Start(m.Slab, wantRoots(m)), rnd.below(8))
		if rnd.below(3) == 0 {
			m.Marker = anyMarker(rnd, m.Slab)
		}
	case 2:
		m.Marker = impl.MarkStep(m.Slab, impl.Start(m.Slab, wantRoots(m)), 2000)
		m.Slab, m.Marker = impl.SweepStep(m.Slab, m.Marker, rnd.below(10))
		if m.Marker.Phase == impl.PhSweep && rnd.below(2) == 0 {
			spoilUnmet(rnd, m)
		}
	}
	if rnd.below(wild) == 0 {
		turnMachine(rnd, &m)
	}
	return m
}

// wanted: values of the kinds that a step wants.
func wanted(rnd *dice, s impl.Slab, step impl.Step, values []int) []int {
	of := func(list []int) int { return list[rnd.below(len(list))] }
	switch step.Op {
	case impl.OpCall:
		out := []int{of(functionsOf(s))}
		for range step.A {
			out = append(out, of(values))
		}
		return out
	case impl.OpPut, impl.OpField, impl.OpGet:
		return []int{of(objectsOf(s)), of(append(objectsOf(s), values...))}[:wantsMany(step)]
	case impl.OpAdd:
		if rnd.below(2) == 0 {
			return []int{of(namesOf(s)), of(namesOf(s))}
		}
	}
	return []int{impl.IntOf(rnd.below(9) - 4), impl.IntOf(rnd.below(9) - 4)}
}

func wantsMany(s impl.Step) int {
	wants, _ := wantsOf(s)
	return wants
}

// spoilUnmet: words of blocks that nobody met are anything, but for the first one of each.
func spoilUnmet(rnd *dice, m impl.Machine) {
	g := sightOf(m.Slab)
	for i, at := range g.places {
		if g.kinds[i] == impl.BkFree || slices.Contains(m.Marker.Black, at) {
			continue
		}
		w := at + 1 + rnd.below(g.sizes[i]-1)
		m.Slab.Words[w] = []int{-1, 0, 1, 2, 97, 300, math.MaxInt, math.MinInt, ref(impl.VText, at), ref(impl.VObj, 1), ref(impl.VInner, 1999)}[rnd.below(11)]
	}
}

// turnMachine: one thing in it is another one.
func turnMachine(rnd *dice, m *impl.Machine) {
	any := append(edgeNumbers(), -1, 1, 2, 3, 31, 99, 1500, ref(impl.VObj, 5), ref(impl.VInner, 3), ref(impl.VText, 2))
	n := any[rnd.below(len(any))]
	frame := &m.Frames[rnd.below(len(m.Frames))]
	switch rnd.below(12) {
	case 0:
		m.Slab.Words[rnd.below(len(m.Slab.Words))] = n
	case 1:
		m.Marker.Phase = n
	case 2:
		m.Marker.At = n
	case 3:
		m.Marker.Black = append(m.Marker.Black, n)
	case 4:
		m.Marker.Grey = append(m.Marker.Grey, n)
	case 5:
		frame.Code = n
	case 6:
		frame.Pc = n
	case 7:
		frame.Scope = n
	case 8:
		m.Stack = append(m.Stack, n)
	case 9:
		m.Code = n
	case 10:
		m.Frames = slices.Repeat(m.Frames, rnd.below(15))
	case 11:
		m.Unit = anyUnit(rnd, 5)
	}
}

func TestP21AnyMachine(t *testing.T) {
	t.Parallel()
	rnd := &dice{179}
	phases, ops := map[string]int{}, [26][7]int{}
	for i := range 8000 {
		m := anyMachine(rnd, 5)
		ok := wantMachineOk(m)
		phases[fmt.Sprint(m.Marker.Phase, " ", ok)]++
		checkMachine(t, "any", m, edgeNumbers()[rnd.below(len(edgeNumbers()))], rnd.below(4), 100*(i%2))
		if ok && !m.Over {
			frame := m.Frames[len(m.Frames)-1]
			next := impl.MachineStep(m)
			code := 6
			if next.Over {
				code = next.Code
			}
			ops[m.Unit.Codes[frame.Code].Steps[frame.Pc].Op][code]++
		}
		if i%4 == 0 {
			plan, steps := anyPlan(rnd), rnd.below(30)-3
			if got, want := impl.MachineRun(m, plan, steps), wantRun(m, plan, steps); !sameMachine(got, want) {
				t.Errorf("run by %v, %d: %s, not %s, of %s", plan, steps, machineText(got), machineText(want), machineText(m))
			}
		}
		if t.Failed() {
			return
		}
	}
	for _, kind := range []string{"0 true", "0 false", "1 true", "1 false", "2 true", "2 false"} {
		if phases[kind] < 150 {
			t.Errorf("too few of %s: %v", kind, phases)
		}
	}
	for op := 1; op <= 25; op++ {
		if ops[op][6] < 15 && op != impl.OpReturn || ops[op][5] < 1 && op != impl.OpJump {
			t.Errorf("too few of %s: %v", opTable[op].name, ops[op])
		}
	}
	for _, op := range []int{impl.OpText, impl.OpPut, impl.OpField, impl.OpObj, impl.OpFun, impl.OpCall} {
		if ops[op][4] < 3 {
			t.Errorf("too few of %s without room: %v", opTable[op].name, ops[op])
		}
	}
	if ops[impl.OpReturn][0] < 100 || ops[impl.OpCall][2] < 3 || ops[impl.OpCall][1] < 30 {
		t.Error("too few ends:", ops[impl.OpReturn], ops[impl.OpCall])
	}
}

// roomyMachine: a machine like it each list of which has room behind it, with something in it.
func roomyMachine(m impl.Machine) impl.Machine {
	m = machineClone(m)
	m.Unit, m.Slab = roomyUnit(m.Unit), withRoom(m.Slab)
	m.Marker.Grey, m.Marker.Black = withRoom(impl.Slab{Words: m.Marker.Grey}).Words, withRoom(impl.Slab{Words: m.Marker.Black}).Words
	m.Stack = withRoom(impl.Slab{Words: m.Stack}).Words
	m.Frames = append(m.Frames, impl.Frame{Code: 1, Pc: 2, Scope: 3}, impl.Frame{Code: 4})[:len(m.Frames)]
	m.Lines = append(m.Lines, "behind", "further")[:len(m.Lines)]
	return m
}

// wholeMachine: a machine, and what is in the room behind its lists.
func wholeMachine(m impl.Machine) string {
	whole := func(list []int) string { return fmt.Sprint(len(list), list[:cap(list)]) }
	return fmt.Sprint(wholeUnit(m.Unit), whole(m.Slab.Words), whole(m.Marker.Grey), whole(m.Marker.Black), whole(m.Stack), len(m.Frames), m.Frames[:cap(m.Frames)], len(m.Lines), strings.Join(m.Lines[:cap(m.Lines)], "\n"), m.Marker.Phase, m.Marker.At, m.Over, m.Code)
}

// spoilLists: each list of a machine, and the room behind it, one behind the other, is spoilt; ahead of each the others are asked whether they are what they were.
func spoilLists(t *testing.T, what string, m impl.Machine) {
	t.Helper()
	var lists []func() string
	var spoils []func()
	ints := func(list []int) {
		lists = append(lists, func() string { return fmt.Sprint(list) })
		spoils = append(spoils, func() { spoil(impl.Slab{Words: list}) })
	}
	ints(m.Slab.Words)
	ints(m.Marker.Grey)
	ints(m.Marker.Black)
	ints(m.Stack)
	lists = append(lists, func() string { return fmt.Sprint(m.Frames) }, func() string { return fmt.Sprintf("%q", m.Lines) }, func() string { return fmt.Sprintf("%q", m.Unit.Texts) })
	spoils = append(spoils, func() {
		for i := range m.Frames[:cap(m.Frames)] {
			m.Frames[:cap(m.Frames)][i] = impl.Frame{Code: -5, Pc: -5, Scope: -5}
		}
	}, func() {
		for i := range m.Lines[:cap(m.Lines)] {
			m.Lines[:cap(m.Lines)][i] = "spoilt"
		}
	}, func() {
		for i := range m.Unit.Texts[:cap(m.Unit.Texts)] {
			m.Unit.Texts[:cap(m.Unit.Texts)][i] = "spoilt"
		}
	})
	for _, c := range m.Unit.Codes {
		lists = append(lists, func() string { return fmt.Sprint(c.Steps) })
		spoils = append(spoils, func() {
			for i := range c.Steps[:cap(c.Steps)] {
				c.Steps[:cap(c.Steps)][i] = impl.Step{Op: -5, A: -5, B: -5}
			}
		})
	}
	var before []string
	for _, list := range lists {
		before = append(before, list())
	}
	for i, spoil := range spoils {
		for j := i; j < len(lists); j++ {
			if now := lists[j](); now != before[j] {
				t.Errorf("%s: lists of one answer share: %s, not %s", what, now, before[j])
			}
		}
		spoil()
	}
	spoilUnit(m.Unit)
}

// Nothing is written into what was handed in, nor behind it; and what is told is new.
func TestP21MachinesAreNew(t *testing.T) {
	t.Parallel()
	rnd := &dice{180}
	var machines []impl.Machine
	for range 1200 {
		machines = append(machines, anyMachine(rnd, 5))
	}
	// codes that share one list of steps, and lists that share words
	shared := shopMachine(stepA(impl.OpNull), 30, impl.VNull)
	shared.Unit.Codes[3].Steps = shared.Unit.Codes[2].Steps
	one := shopMachine(stepA(impl.OpNull), 30)
	one.Stack, one.Marker = one.Slab.Words[:1], marking(one.Slab.Words[1:1], nil)
	machines = append(machines, shared, phasesOf(shared)[5], one, impl.Machine{}, impl.Machine{Stack: []int{}, Lines: []string{}, Frames: []impl.Frame{}})
	for _, n := range livelyPrograms(181, 25) {
		machines = append(machines, impl.MachineRun(machineOf(t, n, 200), []int{1, 0, 0}, rnd.below(120)))
	}
	for i, m := range machines {
		whole := roomyMachine(m)
		if i%2 == 0 {
			whole = m
		}
		plan := []int{1, 0, 5, 100}
		roomyPlan := append(slices.Clone(plan), -77, -77)[:4]
		before := wholeMachine(whole)
		answers := map[string]func() impl.Machine{
			"step": func() impl.Machine { return impl.MachineStep(whole) }, "run": func() impl.Machine { return impl.MachineRun(whole, roomyPlan, 6) }, "run by none": func() impl.Machine { return impl.MachineRun(whole, nil, 3) }, "no steps": func() impl.Machine { return impl.MachineRun(whole, roomyPlan, 0) },
			"new": func() impl.Machine { n, _ := impl.MachineNew(whole.Unit, 40); return n },
		}
		for _, n := range []int{0, 1, 4, 100} {
			answers[fmt.Sprint("gc ", n)] = func() impl.Machine { return impl.Gc(whole, n) }
		}
		for what, ask := range answers {
			first, second := ask(), ask()
			want := machineClone(first)
			spoilLists(t, what, first)
			if third := ask(); !sameMachine(second, want) || !sameMachine(third, want) {
				t.Errorf("%s: %s and %s, not %s", what, machineText(second), machineText(third), machineText(want))
			}
		}
		roots := impl.Roots(whole)
		want := slices.Clone(roots)
		spoil(impl.Slab{Words: roots})
		if again := impl.Roots(whole); !slices.Equal(again, want) {
			t.Errorf("roots: %v, not %v", again, want)
		}
		impl.MachineOk(whole)
		if now := wholeMachine(whole); now != before || !slices.Equal(roomyPlan[:cap(roomyPlan)][:6], []int{1, 0, 5, 100, -77, -77}) {
			t.Fatalf("it was written into: %s, not %s", now, before)
		}
	}
}

// What was told stays as it is when what was handed in is spoilt.
func TestP21MachinesKeepNothing(t *testing.T) {
	t.Parallel()
	rnd := &dice{182}
	for range 1000 {
		m := anyMachine(rnd, 50)
		for _, ask := range []func(m impl.Machine) impl.Machine{impl.MachineStep, func(m impl.Machine) impl.Machine { return impl.Gc(m, 3) }, func(m impl.Machine) impl.Machine { return impl.Gc(m, 0) }, func(m impl.Machine) impl.Machine { return impl.Gc(m, 100) },
			func(m impl.Machine) impl.Machine { return impl.MachineRun(m, []int{2}, 5) }, func(m impl.Machine) impl.Machine { n, _ := impl.MachineNew(m.Unit, 30); return n }} {
			handed := roomyMachine(m)
			got := ask(handed)
			want := machineClone(got)
			spoilLists(t, "handed in", handed)
			if !sameMachine(got, want) {
				t.Fatalf("what was told is turned: %s, not %s", machineText(got), machineText(want))
			}
		}
	}
}

func TestP21GreatMachines(t *testing.T) {
	const many = 200000
	base := shopMachine(stepA(impl.OpPrint), 30, impl.VNull)
	turned := func(turn func(m *impl.Machine)) impl.Machine {
		m := machineClone(base)
		turn(&m)
		return m
	}
	long := make([]int, many)
	for what, m := range map[string]impl.Machine{
		"stack": turned(func(m *impl.Machine) { m.Stack = long }), "frames": turned(func(m *impl.Machine) { m.Frames = slices.Repeat(m.Frames, many) }), "slab": turned(func(m *impl.Machine) { m.Slab.Words = long }), "grey": turned(func(m *impl.Machine) { m.Marker = marking(long, nil) }),
		"black": turned(func(m *impl.Machine) { m.Marker = sweeping(0, long...) }), "codes": turned(func(m *impl.Machine) { m.Unit.Codes = slices.Repeat(m.Unit.Codes, many) }), "texts": turned(func(m *impl.Machine) { m.Unit.Texts = make([]string, many) }),
		"steps": turned(func(m *impl.Machine) { m.Unit.Codes[1].Steps = slices.Repeat(m.Unit.Codes[1].Steps, many) }),
	} {
		okIs(t, what, m, false)
		if got := impl.MachineRun(m, nil, 3); !sameMachine(got, impl.Machine{}) {
			t.Error(what, "run")
		}
		if got := impl.MachineRun(m, nil, 0); !sameMachine(got, m) {
			t.Error(what, "no steps")
		}
		if len(impl.Roots(m)) != len(m.Stack)+len(m.Frames) {
			t.Error(what, "roots")
		}
	}
	lines := turned(func(m *impl.Machine) { m.Lines = make([]string, many) })
	if got := impl.MachineStep(lines); len(got.Lines) != many+1 || got.Lines[many] != "null" || !impl.MachineOk(lines) {
		t.Error("lines:", len(got.Lines))
	}
	plan := slices.Repeat([]int{1, 0}, many)
	if got, want := impl.MachineRun(base, plan, 3), impl.MachineRun(base, plan[:4], 3); !sameMachine(got, want) {
		t.Error("a long plan:", machineText(got))
	}
	// as great as may be
	steps := slices.Repeat([]impl.Step{endStep()}, 2000)
	great := turned(func(m *impl.Machine) {
		m.Unit.Codes = nil
		for range 40 {
			m.Unit.Codes = append(m.Unit.Codes, impl.Code{Names: 12, Vars: 12, Steps: steps})
		}
		m.Unit.Texts = slices.Repeat([]string{strings.Repeat("x", 30)}, 200)
		m.Slab.Words = append(m.Slab.Words[:shopFree], heapOf(slices.Repeat([]body{holding(impl.BkScope, ref(impl.VInner, shopRoom))}, 978)...).Words...)
		m.Slab.Words[len(m.Slab.Words)-2] += 8
		m.Slab.Words = append(m.Slab.Words, 0)
		m.Stack = slices.Repeat([]int{ref(impl.VObj, shopChild)}, 1500)
		m.Frames = slices.Repeat([]impl.Frame{{Code: 39, Pc: 1999, Scope: ref(impl.VInner, shopFree+2*976)}}, 31)
	})
	if len(great.Slab.Words) != 2000 {
		t.Fatal(len(great.Slab.Words))
	}
	okIs(t, "as great as may be", great, true)
	for _, plan := range [][]int{nil, {1}, {100}, {99}} {
		if got := impl.MachineRun(great, plan, 5000); !got.Over || got.Code != 0 || len(got.Stack) != 1499 || len(got.Frames) != 1 || !sound(got) {
			t.Errorf("as great as may be by %v: %v %d, %d values, %d frames", plan, got.Over, got.Code, len(got.Stack), len(got.Frames))
		}
	}
}

// Nothing goes on when it has answered.
func TestP21NoMachineGoesOn(t *testing.T) {
	before := runtime.NumGoroutine()
	m := machineOf(t, mustParse(t, machineSources()[12]), 120)
	for n := range 30 {
		impl.MachineRun(m, []int{n, 0, 100}, 200)
		impl.MachineStep(m)
		for _, at := range phasesOf(impl.MachineRun(m, nil, n)) {
			impl.Gc(at, n)
			impl.Gc(at, 100)
		}
	}
	wantNoMore(t, before)
}

func TestP21MachinesAskedByManyAtOnce(t *testing.T) {
	var machines, wants []impl.Machine
	for _, n := range livelyPrograms(183, 12) {
		m := machineOf(t, n, 200)
		machines, wants = append(machines, m), append(wants, impl.MachineRun(m, []int{1, 0, 7}, 150))
	}
	var all sync.WaitGroup
	for range 16 {
		all.Go(func() {
			for i, m := range machines {
				if got := impl.MachineRun(m, []int{1, 0, 7}, 150); !sameMachine(got, wants[i]) || !sound(got) {
					t.Errorf("%d: %s, not %s", i, machineText(got), machineText(wants[i]))
				}
			}
		})
	}
	all.Wait()
}
