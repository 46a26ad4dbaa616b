package tests

import (
	"fmt"
	"slices"
	"strconv"
	"strings"
	"testing"

	"loop.example/g00242/impl"
)

func sameUnit(a, b impl.Unit) bool {
	return slices.Equal(a.Texts, b.Texts) && slices.EqualFunc(a.Codes, b.Codes, func(c, d impl.Code) bool {
		return c.Names == d.Names && c.Vars == d.Vars && slices.Equal(c.Steps, d.Steps)
	})
}

func sameMachine(a, b impl.Machine) bool {
	lists := sameWords(a.Slab, b.Slab) && slices.Equal(a.Frames, b.Frames) && slices.Equal(a.Stack, b.Stack) && slices.Equal(a.Lines, b.Lines)
	return lists && sameUnit(a.Unit, b.Unit) && sameMarker(a.Marker, b.Marker) && a.Over == b.Over && a.Code == b.Code
}

// machineText: all but the unit.
func machineText(m impl.Machine) string {
	return fmt.Sprintf("slab %v marker %v frames %v stack %v lines %.300q over %v %d", m.Slab.Words, m.Marker, m.Frames, m.Stack, m.Lines, m.Over, m.Code)
}

func machineClone(m impl.Machine) impl.Machine {
	var codes []impl.Code
	for _, c := range m.Unit.Codes {
		c.Steps = slices.Clone(c.Steps)
		codes = append(codes, c)
	}
	m.Unit = impl.Unit{Codes: codes, Texts: slices.Clone(m.Unit.Texts)}
	m.Slab, m.Marker = impl.Slab{Words: slices.Clone(m.Slab.Words)}, markerClone(m.Marker)
	m.Frames, m.Stack, m.Lines = slices.Clone(m.Frames), slices.Clone(m.Stack), slices.Clone(m.Lines)
	return m
}

func wantRoots(m impl.Machine) []int {
	var out []int
	out = append(out, m.Stack...)
	for _, f := range m.Frames {
		out = append(out, f.Scope)
	}
	return out
}

func wantMachineOk(m impl.Machine) bool {
	if len(m.Stack) > 1500 || len(m.Frames) == 0 || len(m.Frames) > 31 || m.Code < 0 || m.Code > 5 || !wantUnitOk(m.Unit) || !wantMarkerOk(m.Slab, m.Marker) {
		return false
	}
	for _, f := range m.Frames {
		if f.Code < 0 || f.Code >= len(m.Unit.Codes) || f.Pc < 0 || f.Pc >= len(m.Unit.Codes[f.Code].Steps) || leftOver(f.Scope, 8) != 7 {
			return false
		}
	}
	g := sightOf(m.Slab)
	if m.Marker.Phase != impl.PhSweep {
		return g.rootsOk(wantRoots(m))
	}
	return !slices.ContainsFunc(wantRoots(m), func(v int) bool {
		return !g.root(v) || leftOver(v, 8) >= 4 && !slices.Contains(m.Marker.Black, wantNum(v))
	})
}

// wantTurned: Gc of what is right.
func wantTurned(m impl.Machine, n int) impl.Machine {
	m = machineClone(m)
	roots := wantRoots(m)
	switch {
	case n < 1:
	case n > 99:
		if m.Marker.Phase == impl.PhSweep {
			m.Slab, _ = wantSweepStep(m.Slab, m.Marker, 2000)
		}
		s, to := wantTidy(m.Slab, roots)
		m.Slab, m.Marker = s, impl.Marker{}
		m.Stack = to[:len(m.Stack)]
		for i, scope := range to[len(m.Stack):] {
			m.Frames[i].Scope = scope
		}
	case m.Marker.Phase == impl.PhRest:
		m.Marker = wantStart(m.Slab, roots)
	case m.Marker.Phase == impl.PhMark:
		for _, v := range roots {
			m.Marker = wantShade(m.Slab, m.Marker, v)
		}
		m.Marker = wantMarkStep(m.Slab, m.Marker, n)
	default:
		m.Slab, m.Marker = wantSweepStep(m.Slab, m.Marker, n)
	}
	return m
}

func wantGc(m impl.Machine, n int) impl.Machine {
	if !wantMachineOk(m) {
		return impl.Machine{}
	}
	return wantTurned(m, n)
}

// hand does one step by the chapter's words, with what the functions of the chapters ahead tell; -1 is no code: it goes on.
type hand struct{ m impl.Machine }

// heap: the slab as those functions want it. While it sweeps, what nobody met is a scope of nothing in its place, but for right texts, which may come back.
func (h *hand) heap() impl.Slab {
	s := impl.Slab{Words: slices.Clone(h.m.Slab.Words)}
	if h.m.Marker.Phase != impl.PhSweep {
		return s
	}
	g := sightOf(s)
	for i, at := range g.places {
		if g.kinds[i] == impl.BkFree || slices.Contains(h.m.Marker.Black, at) || g.kinds[i] == impl.BkText && g.shape(at) {
			continue
		}
		clear(s.Words[at : at+g.sizes[i]])
		s.Words[at] = 8*g.sizes[i] + impl.BkScope
	}
	return s
}

// made: what one of those functions told of the heap is so in the slab; what it took is Fresh, then what was written is Shade.
func (h *hand) made(s impl.Slab, written ...int) {
	heap := h.heap()
	for i, w := range s.Words {
		if w != heap.Words[i] {
			h.m.Slab.Words[i] = w
		}
	}
	for _, at := range takenPlaces(s) {
		if !slices.Contains(takenPlaces(heap), at) {
			h.m.Marker = impl.Fresh(h.m.Marker, at)
		}
	}
	for _, v := range written {
		h.m.Marker = impl.Shade(h.m.Slab, h.m.Marker, v)
	}
}

func (h *hand) push(v int) int {
	h.m.Stack = append(h.m.Stack, v)
	return -1
}

func (h *hand) pop() int {
	v := h.m.Stack[len(h.m.Stack)-1]
	h.m.Stack = h.m.Stack[:len(h.m.Stack)-1]
	return v
}

func (h *hand) text(t string) (int, bool) {
	s, v, ok := impl.TextPut(h.heap(), t)
	if !ok {
		return 0, false
	}
	if _, there := impl.TextFind(h.heap(), t); there && h.m.Marker.Phase == impl.PhSweep {
		h.m.Marker = impl.Fresh(h.m.Marker, wantNum(v))
	}
	h.made(s)
	return v, true
}

// new: what was made is put.
func (h *hand) new(s impl.Slab, v int, ok bool, written ...int) int {
	if !ok {
		return 4
	}
	h.made(s, written...)
	return h.push(v)
}

func (h *hand) prop(obj, v int, name string) int {
	if _, round := wantCells(h.m.Slab.Words, obj); round || leftOver(v, 8) == 7 {
		return 5
	}
	key, ok := h.text(name)
	if !ok {
		return 4
	}
	written := []int{key, v}
	if _, has := impl.Own(h.heap(), obj, key); has {
		written = []int{v}
	}
	s, ok := impl.PropSet(h.heap(), obj, key, v)
	if !ok {
		return 4
	}
	h.made(s, written...)
	return -1
}

func (h *hand) put(obj, v int, name string) int {
	switch {
	case name != "proto" && leftOver(v, 8) == 7:
		return 5
	case leftOver(obj, 8) != 5:
		return 1
	case name != "proto":
		return h.prop(obj, v, name)
	}
	s, ok := impl.ProtoSet(h.heap(), obj, v)
	if !ok {
		return 1
	}
	h.made(s, v)
	return -1
}

func (h *hand) get(obj int, name string) int {
	if leftOver(obj, 8) != 5 {
		return 1
	}
	if name == "proto" {
		return h.push(h.m.Slab.Words[wantNum(obj)+1])
	}
	key, ok := impl.TextFind(h.heap(), name)
	if !ok {
		return h.push(impl.VUndef)
	}
	v, _ := impl.Look(h.heap(), obj, key)
	return h.push(v)
}

func (h *hand) call(count int) int {
	with := slices.Clone(h.m.Stack[len(h.m.Stack)-count:])
	h.m.Stack = h.m.Stack[:len(h.m.Stack)-count]
	number, about, ok := impl.FunOf(h.heap(), h.pop())
	if !ok {
		return 1
	}
	if number >= len(h.m.Unit.Codes) {
		return 5
	}
	c := h.m.Unit.Codes[number]
	with = with[:min(count, c.Names)]
	if slices.ContainsFunc(with, func(v int) bool { return leftOver(v, 8) == 7 }) {
		return 5
	}
	if len(h.m.Frames) > 30 {
		return 2
	}
	s, own, ok := impl.ScopeNew(h.heap(), about, c.Vars)
	if !ok {
		return 4
	}
	h.made(s, about)
	for i, v := range with {
		s, _ := impl.VarSet(h.heap(), own, 0, i, v)
		h.made(s, v)
	}
	h.m.Frames = append(h.m.Frames, impl.Frame{Code: number, Scope: own})
	return -1
}

func (h *hand) two(name string, a, b int) int {
	kinds := [2]int{leftOver(a, 8), leftOver(b, 8)}
	text := func(v int) string { return impl.TextOf(h.heap(), v) }
	n, m := wantNum(a), wantNum(b)
	switch {
	case name == "same" && kinds == [2]int{4, 4}:
		return h.push(impl.BoolOf(text(a) == text(b)))
	case name == "same":
		return h.push(impl.BoolOf(a == b))
	case name == "add" && kinds == [2]int{4, 4} && len(text(a)+text(b)) <= 30:
		v, ok := h.text(text(a) + text(b))
		if !ok {
			return 4
		}
		return h.push(v)
	case kinds != [2]int{3, 3}:
		return 1
	case name == "less":
		return h.push(impl.BoolOf(n < m))
	}
	return h.push(ref(3, round(map[string]int{"add": n + m, "sub": n - m, "mul": n * m}[name])))
}

func (h *hand) no(v int) bool {
	return v == 0 || v == 1 || v == 2 || v == 3 || leftOver(v, 8) == 4 && impl.TextOf(h.heap(), v) == ""
}

func (h *hand) print(v int) int {
	line, plain := map[int]string{0: "undefined", 1: "null", 2: "false", 10: "true"}[v]
	switch kind := leftOver(v, 8); {
	case plain:
	case kind == 3:
		line = strconv.Itoa(wantNum(v))
	case kind == 4:
		line = impl.TextOf(h.heap(), v)
	case kind == 7:
		return 5
	default:
		line = map[int]string{5: "object", 6: "function"}[kind]
	}
	h.m.Lines = append(h.m.Lines, line)
	return -1
}

func (h *hand) back() int {
	v := h.pop()
	if len(h.m.Frames) == 1 {
		h.m.Frames[0].Pc--
		return 0
	}
	h.m.Frames = h.m.Frames[:len(h.m.Frames)-1]
	return h.push(v)
}

// onStack: how many values an op wants, and how many it leaves there of them.
var onStack = map[string][2]int{
	"int": {0, 1}, "text": {0, 1}, "undef": {0, 1}, "null": {0, 1}, "true": {0, 1}, "false": {0, 1}, "load": {0, 1}, "store": {1, 0}, "get": {1, 1}, "put": {2, 0}, "obj": {0, 1}, "call": {1, 0}, "return": {1, 1},
	"add": {2, 1}, "sub": {2, 1}, "mul": {2, 1}, "less": {2, 1}, "same": {2, 1}, "not": {1, 1}, "jump": {0, 0}, "else": {1, 0}, "print": {1, 0}, "pop": {1, 0}, "fun": {0, 1}, "field": {2, 1},
}

func wantsOf(s impl.Step) (wants, leaves int) {
	name := opTable[s.Op].name
	if name == "call" {
		return 1 + s.A, 0
	}
	return onStack[name][0], onStack[name][1]
}

func (h *hand) once() int {
	f := &h.m.Frames[len(h.m.Frames)-1]
	step := h.m.Unit.Codes[f.Code].Steps[f.Pc]
	f.Pc++
	wants, leaves := wantsOf(step)
	if len(h.m.Stack) < wants || len(h.m.Stack)-wants+leaves > 1500 {
		return 5
	}
	name := opTable[step.Op].name
	switch name {
	case "int":
		return h.push(ref(3, step.A))
	case "undef", "null", "true", "false":
		return h.push(map[string]int{"null": 1, "false": 2, "true": 10}[name])
	case "text":
		v, ok := h.text(h.m.Unit.Texts[step.A])
		if !ok {
			return 4
		}
		return h.push(v)
	case "load":
		v, ok := impl.VarGet(h.heap(), f.Scope, step.A, step.B)
		if !ok {
			return 5
		}
		return h.push(v)
	case "store":
		v := h.pop()
		s, ok := impl.VarSet(h.heap(), f.Scope, step.A, step.B, v)
		if !ok {
			return 5
		}
		h.made(s, v)
		return -1
	case "get":
		return h.get(h.pop(), h.m.Unit.Texts[step.A])
	case "put":
		v := h.pop()
		return h.put(h.pop(), v, h.m.Unit.Texts[step.A])
	case "field":
		v := h.pop()
		obj := h.m.Stack[len(h.m.Stack)-1]
		if leftOver(obj, 8) != 5 {
			return 5
		}
		return h.prop(obj, v, h.m.Unit.Texts[step.A])
	case "obj":
		s, v, ok := impl.ObjNew(h.heap(), impl.VNull)
		return h.new(s, v, ok)
	case "fun":
		s, v, ok := impl.FunNew(h.heap(), step.A, f.Scope)
		return h.new(s, v, ok, f.Scope)
	case "call":
		return h.call(step.A)
	case "return":
		return h.back()
	case "not":
		return h.push(impl.BoolOf(h.no(h.pop())))
	case "jump":
		f.Pc = step.A
		return -1
	case "else":
		if h.no(h.pop()) {
			f.Pc = step.A
		}
		return -1
	case "print":
		return h.print(h.pop())
	case "pop":
		h.pop()
		return -1
	}
	b := h.pop()
	return h.two(name, h.pop(), b)
}

// wantStepped: MachineStep of what is right.
func wantStepped(m impl.Machine) impl.Machine {
	if m.Over {
		return m
	}
	h := &hand{machineClone(m)}
	code := h.once()
	if code == 4 {
		h = &hand{wantTurned(m, 100)}
		code = h.once()
	}
	if code == -1 {
		return h.m
	}
	out := machineClone(m)
	if code == 0 {
		out = h.m
	}
	out.Over, out.Code = true, code
	return out
}

func wantStep(m impl.Machine) impl.Machine {
	if !wantMachineOk(m) {
		return impl.Machine{}
	}
	return wantStepped(m)
}

func wantRun(m impl.Machine, plan []int, steps int) impl.Machine {
	m = machineClone(m)
	for i := 0; i < min(steps, 4000) && !m.Over; i++ {
		n := 0
		if len(plan) > 0 {
			n = plan[i%len(plan)]
		}
		m = wantStep(wantGc(m, n))
	}
	return m
}

// seen: what the roots of a machine see, as chapter 7 has it, of a slab that is swept too.
func seen(m impl.Machine) string {
	g, roots := sightOf(m.Slab), wantRoots(m)
	met := g.met(roots)
	out := "roots"
	for _, v := range roots {
		out += wantValue(v, met)
	}
	out += "\n"
	for _, at := range met {
		out += g.lineAt(at, met)
	}
	return out
}

// sound: promise 17.
func sound(m impl.Machine) bool { return impl.MachineOk(m) && impl.TriOk(m.Slab, m.Marker) }

// framePlaces: where each frame is.
func framePlaces(m impl.Machine) [][2]int {
	var out [][2]int
	for _, f := range m.Frames {
		out = append(out, [2]int{f.Code, f.Pc})
	}
	return out
}

// sameButSlab: all is alike but where things lie.
func sameButSlab(a, b impl.Machine) bool {
	return sameUnit(a.Unit, b.Unit) && slices.Equal(a.Lines, b.Lines) && a.Over == b.Over && a.Code == b.Code && slices.Equal(framePlaces(a), framePlaces(b)) && len(a.Stack) == len(b.Stack)
}

// gced: Gc of a machine that is sound: it is so behind it, sees the same, and all else is as it was.
func gced(t *testing.T, what string, m impl.Machine, n int) impl.Machine {
	t.Helper()
	next := impl.Gc(m, n)
	if !sound(next) {
		t.Fatalf("%s: Gc by %d is not sound: %s, of %s", what, n, machineText(next), machineText(m))
	}
	one, two := impl.Roots(m), impl.Roots(next)
	if seen(m) != seen(next) || impl.RootsOk(m.Slab, one) && impl.RootsOk(next.Slab, two) && !impl.SameSight(m.Slab, one, next.Slab, two) {
		t.Fatalf("%s: Gc by %d: another sight: %s, of %s", what, n, machineText(next), machineText(m))
	}
	if !sameButSlab(m, next) {
		t.Fatalf("%s: Gc by %d turned more than it may: %s, of %s", what, n, machineText(next), machineText(m))
	}
	if n > 99 {
		checkOneRoom(t, what, next.Slab)
		if !sameMarker(next.Marker, impl.Marker{}) || impl.Waste(next.Slab, two) != 0 {
			t.Fatalf("%s: not tidy by %d: %s", what, n, machineText(next))
		}
	}
	return next
}

// phasesOf: a machine at rest, and each state in which it is marked and swept bit by bit, up to its end, and when all is tidied.
func phasesOf(m impl.Machine) []impl.Machine {
	out := []impl.Machine{m}
	at := impl.Gc(m, 1)
	for ; at.Marker.Phase != impl.PhRest; at = impl.Gc(at, 1) {
		out = append(out, at)
	}
	return append(out, at, impl.Gc(m, 100))
}

// checkMachine holds what each function tells of a machine against the tests' own reckoning.
func checkMachine(t *testing.T, what string, m impl.Machine, numbers ...int) {
	t.Helper()
	if got, want := impl.MachineOk(m), wantMachineOk(m); got != want {
		t.Errorf("%s: MachineOk is %v of %s", what, got, machineText(m))
	}
	if got, want := impl.Roots(m), wantRoots(m); !slices.Equal(got, want) {
		t.Errorf("%s: Roots are %v, not %v", what, got, want)
	}
	for _, n := range numbers {
		if got, want := impl.Gc(m, n), wantGc(m, n); !sameMachine(got, want) {
			t.Errorf("%s: Gc by %d is\n%s, not\n%s, of\n%s", what, n, machineText(got), machineText(want), machineText(m))
		}
	}
	if got, want := impl.MachineStep(m), wantStep(m); !sameMachine(got, want) {
		t.Errorf("%s: MachineStep is\n%s, not\n%s, of\n%s", what, machineText(got), machineText(want), machineText(m))
	}
}

// Where the blocks of the shop lie.
const (
	shopYard  = 0
	shopRoom  = 4
	shopP     = 8
	shopNone  = 11
	shopAb    = 13
	shopObj   = 17
	shopCell  = 20
	shopChild = 24
	shopFun   = 27
	shopFar   = 30
	shopLost  = 33
	shopWaste = 40
	shopFree  = 43
)

// shop: two scopes, texts, objects, functions, a text and an object that nobody reaches, and so many words of room (none below 2).
func shop(free int) impl.Slab {
	bodies := []body{
		holding(impl.BkScope, impl.VUndef, impl.IntOf(5), ref(impl.VObj, shopObj)),
		holding(impl.BkScope, ref(impl.VInner, shopYard), ref(impl.VText, shopP), impl.VUndef),
		holding(impl.BkText, 1, 'p'), holding(impl.BkText, 0), holding(impl.BkText, 2, 'a', 'b'),
		holding(impl.BkObj, impl.VNull, ref(impl.VInner, shopCell)),
		holding(impl.BkCell, ref(impl.VText, shopP), impl.IntOf(7), impl.VUndef),
		holding(impl.BkObj, ref(impl.VObj, shopObj), impl.VUndef),
		holding(impl.BkFun, 1, ref(impl.VInner, shopYard)),
		holding(impl.BkFun, 99, ref(impl.VInner, shopRoom)),
		holding(impl.BkText, 5, 'l', 'o', 's', 't', '!'),
		holding(impl.BkObj, ref(impl.VObj, shopChild), impl.VUndef),
	}
	if free > 1 {
		bodies = append(bodies, room(free))
	}
	return heapOf(bodies...)
}

// Which text is which in the unit of the shop.
const (
	textP = iota
	textNone
	textAb
	textNew
	textProto
	textLost
	textLong
)

var shopTexts = []string{"p", "", "ab", "new", "proto", "lost!", strings.Repeat("x", 30)}

// shopUnit: the step, and behind it some others; a function of two names and three Vars; one of none.
func shopUnit(s impl.Step) impl.Unit {
	rest := []impl.Step{{Op: impl.OpUndef}, {Op: impl.OpReturn}}
	return impl.Unit{Texts: shopTexts, Codes: []impl.Code{
		{Vars: 2, Steps: append([]impl.Step{s}, rest...)}, {Names: 2, Vars: 3, Steps: rest}, {Steps: rest}, {Names: 12, Vars: 12, Steps: rest},
	}}
}

// shopMachine: the last frame is at that step, with the inner scope; the one ahead of it has the outer one, and is about to return.
func shopMachine(s impl.Step, free int, stack ...int) impl.Machine {
	return impl.Machine{Unit: shopUnit(s), Slab: shop(free), Stack: stack, Lines: []string{"ahead"}, Frames: []impl.Frame{{Code: 1, Pc: 1, Scope: ref(impl.VInner, shopYard)}, {Scope: ref(impl.VInner, shopRoom)}}}
}

// shopValues: a value of each kind, and of some kinds two.
func shopValues() []int {
	return []int{impl.VUndef, impl.VNull, impl.BoolOf(true), impl.BoolOf(false), impl.IntOf(0), impl.IntOf(-3), ref(impl.VText, shopAb), ref(impl.VText, shopNone),
		ref(impl.VObj, shopChild), ref(impl.VObj, shopObj), ref(impl.VFun, shopFun), ref(impl.VInner, shopYard)}
}

// everywhere: in each phase the step does what it does at rest: what is seen, printed and told then is the same.
func everywhere(t *testing.T, what string, m impl.Machine) {
	t.Helper()
	checkMachine(t, what, m, 0, 2, 100)
	rest := impl.MachineStep(m)
	for i, at := range phasesOf(m) {
		if len(m.Stack) > 100 && i%8 != 2 {
			continue
		}
		if !sound(at) {
			t.Fatalf("%s: state %d: %s", what, i, machineText(at))
		}
		got, want := impl.MachineStep(at), wantStep(at)
		if !sameMachine(got, want) || !sound(got) {
			t.Errorf("%s: state %d: MachineStep is\n%s, not\n%s, of\n%s", what, i, machineText(got), machineText(want), machineText(at))
		}
		if !sameButSlab(got, rest) || seen(got) != seen(rest) {
			t.Errorf("%s: state %d: %s, at rest\n%s", what, i, machineText(got), machineText(rest))
		}
	}
}

// goesTo: behind the step it is not over, the slab and the stack are these, and the last frame is one step further; at rest, and in each phase what comes to that.
func goesTo(t *testing.T, what string, m impl.Machine, s impl.Slab, stack ...int) {
	t.Helper()
	want := machineClone(m)
	want.Slab, want.Stack = s, stack
	want.Frames[len(want.Frames)-1].Pc++
	if got := impl.MachineStep(m); !sameMachine(got, want) {
		t.Errorf("%s: %s, not\n%s", what, machineText(got), machineText(want))
	}
	everywhere(t, what, m)
}

// endsWith: it is over with that code, and all else is as it was, in each phase.
func endsWith(t *testing.T, what string, m impl.Machine, code int) {
	t.Helper()
	for i, at := range phasesOf(m) {
		want := machineClone(at)
		want.Over, want.Code = true, code
		if got := impl.MachineStep(at); !sameMachine(got, want) || !sound(at) || !sound(got) {
			t.Errorf("%s: state %d: %s, not over with %d: %s", what, i, machineText(got), code, machineText(at))
		}
	}
	checkMachine(t, what, m, 1, 100)
}

func stepA(op int, numbers ...int) impl.Step {
	s := impl.Step{Op: op}
	if len(numbers) > 0 {
		s.A = numbers[0]
	}
	if len(numbers) > 1 {
		s.B = numbers[1]
	}
	return s
}
