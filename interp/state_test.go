package interp

import (
	"math"
	"strings"
	"testing"

	"lantern/api"
)

// P10.2: what a nil Machine tells, whatever it is asked.
func TestNilMachine(t *testing.T) {
	var m *Machine
	for range 2 {
		same(t, "State", []int{m.State(), m.Step(), m.Run(5), m.Run(0), m.Run(-1), m.Run(math.MaxInt), m.Run(math.MinInt)}, []int{Stuck, Stuck, Stuck, Stuck, Stuck, Stuck, Stuck})
		same(t, "lists", []int{len(m.Events()), len(m.Frames())}, []int{0, 0})
		same(t, "numbers", []int{m.Thrown(), m.Steps(), m.Init("M"), m.Init("Object"), m.Init("")}, []int{0, 0, 0, 0, 0})
		same(t, "Heap", m.Heap() == nil, true)
		for _, name := range []string{"M", "Object", ""} {
			v, ok := m.Static(name, "r")
			same(t, "Static", []any{v, ok}, []any{api.Value{}, false})
		}
	}
}

// P10.2: a zero Machine has no program: it does nothing, whatever it is asked.
func TestZeroMachine(t *testing.T) {
	var m Machine
	for range 2 {
		m.State()
		same(t, "State", []int{m.Step(), m.Run(5), m.State()}, []int{Stuck, Stuck, Stuck})
		same(t, "lists", []int{len(m.Events()), len(m.Frames())}, []int{0, 0})
		same(t, "numbers", []int{m.Thrown(), m.Init("M"), m.Init(""), m.Heap().Count()}, []int{0, 0, 0, 0})
		v, ok := m.Static("M", "r")
		same(t, "Static", []any{v, ok}, []any{api.Value{}, false})
	}
}

// P10.2: the frames, the lowest first, each at its place, while calls go on and come back.
func TestFrames(t *testing.T) {
	l := main(code(num(1), in(api.Store, 1), num(8), in(api.Callstatic, "M", "f", "(I)I"), keep, back),
		static("f", "(I)I", in(api.Cconst, 1, 2), in(api.Load, 0), in(api.Callstatic, "M", "g", "(I)I"), num(1), in(api.Iadd), tell),
		static("g", "(I)I", in(api.Load, 0), num(2), in(api.Imul), in(api.Store, 3), in(api.Load, 3), tell))
	m := begun(t, api.Script{}, l)
	locals := func(l ...api.Value) []api.Value { return append(l, make([]api.Value, 6-len(l))...) }
	bottom := Frame{Method: entry, PC: 3, Locals: locals(vInt(0), vInt(1))}
	middle := Frame{Method: "M.f(I)I", PC: 2, Locals: locals(vInt(8)), Stack: []api.Value{vCpx(1 + 2i)}}
	m.Run(7)
	frames(t, m, []Frame{bottom, middle, {Method: "M.g(I)I", PC: 0, Locals: locals(vInt(8))}})
	m.Run(4)
	frames(t, m, []Frame{bottom, middle, {Method: "M.g(I)I", PC: 4, Locals: locals(vInt(8), vInt(0), vInt(0), vInt(16)), Stack: []api.Value{}}})
	m.Run(2)
	middle.PC, middle.Stack = 3, []api.Value{vCpx(1 + 2i), vInt(16)}
	frames(t, m, []Frame{bottom, middle})
	m.Run(3)
	bottom.PC, bottom.Stack = 4, []api.Value{vInt(17)}
	frames(t, m, []Frame{bottom})
	m.Run(2)
	ends(t, m, 17)
}

// P10.2: a machine that is Stuck has its frames, one that ended or died has none.
func TestFramesAtTheEnd(t *testing.T) {
	for want, c := range map[int]struct {
		f      []api.Instr
		frames int
	}{Ended: {code(back), 0}, Died: {code(null, throw), 0}, Stuck: {code(nop), 2}} {
		m := begun(t, api.Script{}, main(code(in(api.Callstatic, "M", "f", "()V"), back), static("f", "()V", c.f)))
		same(t, "Run and Frames", []int{m.Run(100), len(m.Frames())}, []int{want, c.frames})
	}
}

// P10.2: the events of a run, in order, each with its Kind, Where, PC and What.
func TestEvents(t *testing.T) {
	a := class("A", "Object", virtual("f", "(I)I", in(api.Load, 1), sysPick, in(api.Idiv), tell), clinit())
	m := plain(t, main(code(made("A"), num(6), in(api.Callvirtual, "A", "f", "(I)I"), keep, back, keepRef, back), catches(on(2, 3, 5, "ArithEx")), clinit()), a)
	same(t, "Events", m.Events(), []api.Event{
		{Kind: api.EInit, Where: entry, PC: 0, What: "M.<clinit>()V"},
		{Kind: api.EInit, Where: entry, PC: 0, What: "A.<clinit>()V"},
		{Kind: api.ECall, Where: entry, PC: 2, What: "A.f(I)I"},
		{Kind: api.ENative, Where: "A.f(I)I", PC: 1, What: "Sys.pick()I"},
		{Kind: api.EThrow, Where: "A.f(I)I", PC: 2, What: "ArithEx"},
		{Kind: api.ECatch, Where: entry, PC: 5, What: "ArithEx"},
		{Kind: api.EEnd, Where: entry, PC: 6},
	})
}

// P10.2: what a step shows is there as soon as it is done.
func TestEventsStepByStep(t *testing.T) {
	m := begun(t, api.Script{}, main(code(sysPick, pop, in(api.Callstatic, "M", "f", "()V"), back), static("f", "()V", nop, back)))
	var counts []int
	for m.State() == Runs {
		m.Step()
		counts = append(counts, len(m.Events()))
	}
	same(t, "Events", counts, []int{1, 1, 2, 2, 2, 3})
}

// P10.2: Heap is the machine's own, as it is at that time.
func TestHeap(t *testing.T) {
	m := begun(t, api.Script{}, main(code(made("A"), in(api.Store, 0), in(api.Load, 0), num(4), in(api.Putfield, "A", "i", "I"), in(api.Load, 0), in(api.Getfield, "A", "i", "I"), keep, back)), sample())
	h := m.Heap()
	same(t, "Count", h.Count(), 0)
	m.Step()
	same(t, "Count", h.Count(), 1)
	m.Run(3)
	v, _ := h.Get(1, "A.i")
	same(t, "field", v, vInt(0))
	m.Step()
	v, _ = h.Get(1, "A.i")
	same(t, "field", v, vInt(4))
	same(t, "Heap", m.Heap() == h, true)
	m.Run(100)
	ends(t, m, 4)
	same(t, "Heap", m.Heap() == h && h.Count() == 1, true)
}

// P10.2: Init is 0 of what is no class, in whatever state the machine is.
func TestInitOfNone(t *testing.T) {
	m := plain(t, main(code(back)), sample())
	for _, name := range []string{"", "Q", "m", "LM;", "[LM;", "M.main()V", "M ", "A", "Sys", "Throwable", "Task"} {
		same(t, name, m.Init(name), 0)
	}
	same(t, "Init", []int{m.Init("M"), m.Init("Object")}, []int{2, 2})
}

// P10.2: FieldsOf tells all that are not static, of the class and its supers, in order.
func TestFieldsOf(t *testing.T) {
	p := linked(t,
		class("A", "Object", own("z", "I"), shared("s", "I"), own("a", "[[LB;"), implements("F")),
		class("B", "A", shared("t", "C")),
		class("C", "B", own("c", "C"), own("a", "LC;"), own("b", "I")),
		class("D", "Throwable", own("z", "LD;"), abstract),
		face("F", shared("q", "I"), implements("G")), face("G", shared("q", "I")))
	for name, want := range map[string][]string{
		"A": {"A.z:I", "A.a:[[LB;"}, "B": {"A.z:I", "A.a:[[LB;"}, "C": {"C.c:C", "C.a:LC;", "C.b:I", "A.z:I", "A.a:[[LB;"}, "D": {"D.z:LD;"},
		"F": nil, "G": nil, "Object": nil, "Throwable": nil, "Sys": nil, "Task": nil, "InitEx": nil,
		"": nil, "Q": nil, "a": nil, "LA;": nil, "[LA;": nil, "A.z": nil,
	} {
		got := FieldsOf(p, name)
		if strings.Join(got, " ") != strings.Join(want, " ") || len(got) != len(want) {
			t.Errorf("FieldsOf %q: %q, want %q", name, got, want)
		}
		if got := FieldsOf(nil, name); len(got) != 0 {
			t.Errorf("FieldsOf %q of no program: %q", name, got)
		}
	}
}
