package interp

import (
	"math"
	"testing"

	"lantern/api"
	"lantern/link"
)

// entries is a program with methods of all sorts.
func entries(t *testing.T) *link.Prog {
	a := class("A", "Object", shared("x", "I"),
		static("good", "()V", back), static("par", "(I)V", back), static("res", "()I", num(1), tell), virtual("obj", "()V", back), birth, open("abs", "()V"), abstract, clinit())
	return linked(t, a, class("B", "A", abstract), face("F", clinit(), open("run", "()V")), class("J", "Object", implements("Task"), virtual("run", "()V", back)))
}

// P10.1: what an entry is, and what is none.
func TestEntries(t *testing.T) {
	p := entries(t)
	for _, key := range []string{"A.good()V", "A.<clinit>()V", "F.<clinit>()V"} {
		m, e := New(p, key, api.Script{})
		if e != api.OK || m == nil || m.State() != Runs || len(m.Frames()) != 1 || m.Frames()[0].Method != key {
			t.Errorf("%s: %d", key, e)
		}
	}
	for _, key := range []string{
		"A.par(I)V", "A.res()I", "A.obj()V", "A.<init>()V", "A.abs()V", "A.none()V", "A.x()V", "Q.good()V", "F.run()V", "J.run()V", "B.<clinit>()V", "J.<clinit>()V",
		"Object.<init>()V", "Task.run()V", "Sys.pick()I", "Sys.fresh()LObject;", "Sys.call(LTask;)V", "Sys.call()V",
		"", "A", "A.", "A.good", "A.good()", "A.good()I", "A.good(I)V", ".good()V", "A.good()V ", " A.good()V", "A.good()VV", "a.good()V", "A.Good()V", "A..good()V", "LA;.good()V", "good()V", "A.good()V@0", "\x00", "A.good()V\x00", "A.good\xff()V",
	} {
		m, e := New(p, key, api.Script{Picks: []int{1}, Fails: []int{1}})
		if m != nil || e != api.ErrEntry {
			t.Errorf("%q: %v, %d, want ErrEntry", key, m, e)
		}
	}
	for _, key := range []string{"A.good()V", "Object.<init>()V", ""} {
		if m, e := New(nil, key, api.Script{}); m != nil || e != api.ErrEntry {
			t.Errorf("%q of no program: %v, %d, want ErrEntry", key, m, e)
		}
	}
}

// P10.1: how a machine stands at first.
func TestAtFirst(t *testing.T) {
	m := begun(t, picks(3), main(code(nop, back), shared("k", "I"), clinit()), sample())
	state(t, m, Runs)
	frames(t, m, []Frame{{Method: entry, PC: 0, Locals: make([]api.Value, 6)}})
	same(t, "Events, Steps, Thrown, Count", []int{len(m.Events()), m.Steps(), m.Thrown(), m.Heap().Count()}, []int{0, 0, 0, 0})
	for _, name := range []string{"M", "A", "Object", "Sys", "NullEx", "Q", ""} {
		same(t, "Init", m.Init(name), 0)
	}
	none := begun(t, api.Script{}, main(code(back), func(c *api.Class) { c.Methods[0].Locals, c.Methods[0].Stack = 0, 0 }))
	same(t, "Frames", len(none.Frames()[0].Locals)+len(none.Frames()[0].Stack), 0)
}

// P10.1: Run does as many steps as it is told, as long as the machine runs; Step does one.
func TestRun(t *testing.T) {
	l := main(code(nop, nop, nop, nop, back))
	m := begun(t, api.Script{}, l)
	for _, c := range []struct{ n, state, steps int }{
		{0, Runs, 0}, {-1, Runs, 0}, {math.MinInt, Runs, 0}, {1, Runs, 1}, {2, Runs, 3}, {0, Runs, 3}, {-7, Runs, 3}, {1, Runs, 4}, {1, Ended, 5}, {1, Ended, 5}, {0, Ended, 5}, {-1, Ended, 5}, {1000, Ended, 5},
	} {
		same(t, "Run", m.Run(c.n), c.state)
		same(t, "State and Steps", []int{m.State(), m.Steps()}, []int{c.state, c.steps})
	}
	same(t, "Step", []int{m.Step(), m.Steps()}, []int{Ended, 5})
	m = begun(t, api.Script{}, l)
	same(t, "Run of more", []int{m.Run(math.MaxInt), m.Steps()}, []int{Ended, 5})
	m = begun(t, api.Script{}, l)
	for want := range 4 {
		same(t, "Step", []int{m.Step(), m.Steps(), m.Frames()[0].PC}, []int{Runs, want + 1, want + 1})
	}
	same(t, "Step", []int{m.Step(), m.Steps()}, []int{Ended, 5})
	loop := begun(t, api.Script{}, main(code(in(api.Goto, 0))))
	same(t, "a loop", []int{loop.Run(12345), loop.Steps(), loop.Run(5), loop.Steps()}, []int{Runs, 12345, Runs, 12350})
}

// P10.1: a machine that ended, died or is stuck stays.
func TestStays(t *testing.T) {
	for want, l := range map[int][]api.Instr{Ended: code(made("A"), pop, back), Died: code(made("A"), pop, null, throw), Stuck: code(made("A"), in(api.Iadd))} {
		p := linked(t, main(l), sample())
		m, _ := New(p, entry, api.Script{})
		same(t, "Run", m.Run(100), want)
		before := whole(p, m)
		for range 3 {
			same(t, "Step", m.Step(), want)
			same(t, "Run", m.Run(7), want)
			same(t, "Run", m.Run(-1), want)
		}
		same(t, "what can be told", whole(p, m), before)
	}
}

// P10.1: at its beginning the entry's frame asks for its class; as long as that is not done nothing of its code is.
func TestBeginning(t *testing.T) {
	l := code(num(7), keep, back)
	m := begun(t, api.Script{}, main(l, clinit(num(3), keep)))
	same(t, "Step", m.Step(), Runs)
	frames(t, m, []Frame{{Method: entry, PC: 0, Locals: make([]api.Value, 6)}, {Method: "M.<clinit>()V", PC: 0, Locals: make([]api.Value, 6)}})
	shows(t, m, "init M.main()V 0 M.<clinit>()V")
	same(t, "Init", []int{m.Init("Object"), m.Init("M")}, []int{2, 1})
	m.Run(2)
	same(t, "r and Init", []int{kept(m), m.Init("M")}, []int{3, 1})
	m.Step()
	same(t, "Frames and Init", []int{len(m.Frames()), m.Frames()[0].PC, m.Init("M")}, []int{1, 0, 2})
	m.Step()
	values(t, "stack", last(t, m).Stack, []api.Value{vInt(7)})
	m.Run(2)
	ends(t, m, 7)
	same(t, "Steps", m.Steps(), 7)
	shows(t, m, "init M.main()V 0 M.<clinit>()V", "end M.main()V 2")
}

// P10.1: where the class has nothing to begin, its instruction is done in the same step.
func TestBeginningAtOnce(t *testing.T) {
	m := begun(t, api.Script{}, main(code(num(7), keep, back)))
	m.Step()
	values(t, "stack", last(t, m).Stack, []api.Value{vInt(7)})
	same(t, "Init", []int{m.Init("Object"), m.Init("M"), m.Init("NullEx")}, []int{2, 2, 0})
	other := begun(t, api.Script{}, main(code(in(api.Getstatic, "S", "k", "I"), keep, back)), class("S", "Object", shared("k", "I"), clinit()))
	other.Step()
	same(t, "Frames", []int{len(other.Frames()), other.Init("M"), other.Init("S")}, []int{2, 2, 1})
}

// P10.1: the supers of the entry's class come first, from Object on downwards, a step each that pushes.
func TestBeginningOfSupers(t *testing.T) {
	top := class("T", "Object", clinit(nop))
	mid := class("U", "T")
	low := class("W", "U", implements("F"), clinit())
	m := begun(t, api.Script{}, main(code(back), below("W")), top, mid, low, face("F", clinit()))
	var inits [][]int
	for m.State() == Runs {
		m.Step()
		inits = append(inits, []int{m.Init("Object"), m.Init("T"), m.Init("U"), m.Init("W"), m.Init("M"), m.Init("F")})
	}
	same(t, "Init", inits, [][]int{{2, 1, 0, 0, 0, 0}, {2, 1, 0, 0, 0, 0}, {2, 2, 0, 0, 0, 0}, {2, 2, 2, 1, 0, 0}, {2, 2, 2, 2, 0, 0}, {2, 2, 2, 2, 2, 0}})
	shows(t, m, "init M.main()V 0 T.<clinit>()V", "init M.main()V 0 W.<clinit>()V", "end M.main()V 0")
	same(t, "Steps", m.Steps(), 6)
}

// P10.1: a beginning that fails, and what catches it there: then the frame is behind its beginning.
func TestBeginningFails(t *testing.T) {
	bad := clinit(null, throw)
	m := plain(t, main(code(nop, back), bad))
	dies(t, m, "InitEx")
	shows(t, m, "init M.main()V 0 M.<clinit>()V", "throw M.<clinit>()V 1 NullEx", "throw M.main()V 0 InitEx")
	same(t, "Init and Steps", []int{m.Init("M"), m.Steps()}, []int{3, 3})
	caught := main(code(nop, back, pop, num(5), pop, back), catches(on(0, 1, 2, "InitEx")), bad)
	m = plain(t, caught)
	same(t, "State, Init and Steps", []int{m.State(), m.Init("M"), m.Steps()}, []int{Ended, 3, 7})
	shows(t, m, "init M.main()V 0 M.<clinit>()V", "throw M.<clinit>()V 1 NullEx", "throw M.main()V 0 InitEx", "catch M.main()V 2 InitEx", "end M.main()V 5")
	// At its place 0 anew it does not ask anew.
	again := main(code(nop, back), catches(on(0, 1, 0, "")), bad)
	m = plain(t, again)
	state(t, m, Ended)
	shows(t, m, "init M.main()V 0 M.<clinit>()V", "throw M.<clinit>()V 1 NullEx", "throw M.main()V 0 InitEx", "catch M.main()V 0 InitEx", "end M.main()V 1")
	// A handler that does not have place 0 does not catch it.
	dies(t, plain(t, main(code(nop, back), catches(on(1, 2, 1, "")), bad)), "InitEx")
}

// P10.1: a class's own `<clinit>` as the entry: it is initialised first, and then runs as any entry does.
func TestClinitAsEntry(t *testing.T) {
	m, e := New(linked(t, class("A", "Object", shared("n", "I"), clinit(in(api.Getstatic, "A", "n", "I"), num(1), in(api.Iadd), in(api.Putstatic, "A", "n", "I")))), "A.<clinit>()V", api.Script{})
	if e != api.OK {
		t.Fatal(e)
	}
	same(t, "Run", m.Run(100), Ended)
	v, _ := m.Static("A", "n")
	same(t, "n, Init and Steps", []int{v.N, m.Init("A"), m.Steps()}, []int{2, 2, 11})
	shows(t, m, "init A.<clinit>()V 0 A.<clinit>()V", "end A.<clinit>()V 4")
}
