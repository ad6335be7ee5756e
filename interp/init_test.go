package interp

import (
	"fmt"
	"testing"

	"lantern/api"
)

// counted is a class S whose `<clinit>` counts in M's r, with what may ask for it.
func counted(parts ...part) api.Class {
	all := []part{shared("k", "I"), static("f", "()V", back), birth,
		clinit(in(api.Getstatic, "M", "r", "I"), num(1), in(api.Iadd), keep)}
	return class("S", "Object", append(all, parts...)...)
}

// P10.1: what asks for initialisation, of which class, and that the instruction comes anew behind it.
func TestAsks(t *testing.T) {
	for _, c := range []struct {
		lay  []api.Instr
		x    api.Instr
		asks bool
	}{
		{nil, made("S"), true},
		{nil, in(api.Getstatic, "S", "k", "I"), true},
		{code(num(5)), in(api.Putstatic, "S", "k", "I"), true},
		{nil, in(api.Callstatic, "S", "f", "()V"), true},
		{nil, made("U"), true},
		{nil, in(api.Getstatic, "U", "k", "I"), true},
		{code(num(5)), in(api.Putstatic, "U", "k", "I"), true},
		{nil, in(api.Callstatic, "U", "f", "()V"), true},
		{code(num(1)), in(api.Newarray, "LS;"), false},
		{code(null), in(api.Cast, "LS;"), false},
		{code(null), in(api.Isinst, "LS;"), false},
		{code(made("Object")), in(api.Isinst, "LS;"), false},
		{nil, in(api.Callstatic, "Sys", "fresh", "()LObject;"), false},
		{nil, in(api.Callstatic, "V", "f", "()V"), false},
		{nil, made("V"), false},
		{nil, in(api.Getstatic, "F", "z", "I"), false},
	} {
		u := class("U", "S")
		m := begun(t, api.Script{}, main(code(c.lay, c.x, back)), counted(), u, class("V", "Object", static("f", "()V", back)), face("F", shared("z", "I")))
		m.Run(len(c.lay))
		before := m.Frames()[0]
		m.Step()
		if !c.asks {
			same(t, fmt.Sprint(c.x, " Init"), m.Init("S"), 0)
			same(t, "r", kept(m), 0)
			continue
		}
		frames(t, m, []Frame{before, {Method: "S.<clinit>()V", PC: 0, Locals: make([]api.Value, 6)}})
		shows(t, m, fmt.Sprint("init M.main()V ", len(c.lay), " S.<clinit>()V"))
		same(t, "Init", []int{m.Init("S"), m.Init("U"), m.Heap().Count()}, []int{1, 0, 0})
		m.Run(4)
		same(t, "Init", []int{len(m.Frames()), m.Init("S"), kept(m)}, []int{2, 1, 1})
		m.Step()
		frames(t, m, []Frame{before})
		same(t, "Init", m.Init("S"), 2)
		m.Step()
		same(t, "Frames", m.State() == Runs && m.Frames()[0].PC == before.PC+1 || len(m.Frames()) == 2, true)
		m.Run(100)
		ends(t, m, 1)
	}
}

// P10.1: where a field or method is a super's, that alone is asked for; a New asks for the class itself, behind its supers.
func TestAsksOwner(t *testing.T) {
	u := class("U", "S", shared("u", "I"), clinit())
	for _, c := range []struct {
		x      api.Instr
		inited int
	}{{in(api.Getstatic, "U", "k", "I"), 0}, {in(api.Callstatic, "U", "f", "()V"), 0}, {in(api.Getstatic, "U", "u", "I"), 2}, {made("U"), 2}} {
		m := plain(t, main(code(c.x, back)), counted(), u)
		ends(t, m, 1)
		same(t, fmt.Sprint(c.x, " Init"), []int{m.Init("S"), m.Init("U")}, []int{2, c.inited})
		want := []string{"init M.main()V 0 S.<clinit>()V"}
		if c.inited == 2 {
			want = append(want, "init M.main()V 0 U.<clinit>()V")
		}
		if c.x.Op == api.Callstatic {
			want = append(want, "call M.main()V 0 S.f()V")
		}
		shows(t, m, append(want, "end M.main()V 1")...)
	}
}

// P10.1: a class is asked for once; later instructions go on at once.
func TestAsksOnce(t *testing.T) {
	m := plain(t, main(code(made("S"), made("S"), in(api.Getstatic, "S", "k", "I"), in(api.Callstatic, "S", "f", "()V"), in(api.Putstatic, "S", "k", "I"), back)), counted())
	ends(t, m, 1)
	shows(t, m, "init M.main()V 0 S.<clinit>()V", "call M.main()V 3 S.f()V", "end M.main()V 5")
	same(t, "Steps", m.Steps(), 6+1+5+1)
}

// P10.1: interfaces are no supers: those of a class are not asked for; one's own static field asks for it.
func TestInterfaceInit(t *testing.T) {
	face := func(name string, parts ...part) api.Class {
		return face(name, append(parts, shared("z"+name, "I"), clinit(in(api.Getstatic, "M", "r", "I"), num(10), in(api.Iadd), keep))...)
	}
	m := plain(t, main(code(made("S"), back)), counted(implements("F")), face("F", implements("G")), face("G"))
	ends(t, m, 1)
	same(t, "Init", []int{m.Init("F"), m.Init("G")}, []int{0, 0})
	m = plain(t, main(code(in(api.Getstatic, "S", "zF", "I"), back)), counted(implements("F")), face("F", implements("G")), face("G"))
	ends(t, m, 10)
	same(t, "Init", []int{m.Init("S"), m.Init("F"), m.Init("G"), m.Init("Object")}, []int{0, 2, 0, 2})
	shows(t, m, "init M.main()V 0 F.<clinit>()V", "end M.main()V 1")
}

// P10.1: a class without a `<clinit>` is done as soon as its turn comes: ahead of those below it.
func TestTurns(t *testing.T) {
	m := begun(t, api.Script{}, main(code(made("W"), back)), class("T", "Object"), class("U", "T", clinit()), class("W", "U"), class("X", "W"))
	var inits [][]int
	for m.State() == Runs {
		m.Step()
		inits = append(inits, []int{m.Init("T"), m.Init("U"), m.Init("W"), m.Init("X")})
	}
	same(t, "Init", inits, [][]int{{2, 1, 0, 0}, {2, 2, 0, 0}, {2, 2, 2, 0}, {2, 2, 2, 0}})
}

// P10.1: a `<clinit>` that asks for its own class while that goes on is not held up.
func TestAsksItself(t *testing.T) {
	s := class("S", "Object", shared("k", "I"), static("f", "()V", back), clinit(made("S"), pop, num(4), in(api.Putstatic, "S", "k", "I"), in(api.Callstatic, "S", "f", "()V")))
	m := plain(t, main(code(in(api.Getstatic, "S", "k", "I"), keep, back)), s)
	ends(t, m, 4)
	shows(t, m, "init M.main()V 0 S.<clinit>()V", "call S.<clinit>()V 4 S.f()V", "end M.main()V 2")
}

// P10.1: two that ask for each other: the one that comes second sees the first as it is.
func TestRing(t *testing.T) {
	ring := func(name, other string, n int) api.Class {
		return class(name, "Object", shared("k", "I"), clinit(in(api.Getstatic, other, "k", "I"), num(n), in(api.Iadd), in(api.Putstatic, name, "k", "I")))
	}
	m := plain(t, main(code(in(api.Getstatic, "S", "k", "I"), in(api.Getstatic, "T", "k", "I"), num(10), in(api.Imul), in(api.Iadd), keep, back)), ring("S", "T", 3), ring("T", "S", 1))
	ends(t, m, 14)
	shows(t, m, "init M.main()V 0 S.<clinit>()V", "init S.<clinit>()V 0 T.<clinit>()V", "end M.main()V 6")
	// A super that asks for a class below it: that goes on to its own turn while the super goes on.
	m = plain(t, main(code(made("U"), back)), class("T", "Object", clinit(made("U"), pop)), class("U", "T", clinit()))
	ends(t, m, 0)
	shows(t, m, "init M.main()V 0 T.<clinit>()V", "init T.<clinit>()V 0 U.<clinit>()V", "end M.main()V 1")
	same(t, "Init", []int{m.Init("T"), m.Init("U")}, []int{2, 2})
}

// P10.1: one that fails: InitEx for the first who asks, and for each later one; the class stays at 3.
func TestFails(t *testing.T) {
	s := class("S", "Object", shared("k", "I"), static("f", "()V", back), clinit(nop, thrown("MemEx")))
	for _, x := range [][]api.Instr{code(made("S")), code(in(api.Getstatic, "S", "k", "I")), code(num(1), in(api.Putstatic, "S", "k", "I")), code(in(api.Callstatic, "S", "f", "()V")), code(made("U")), code(in(api.Getstatic, "U", "k", "I"))} {
		place := len(x) - 1
		l := code(x, back, pop, x, back)
		m := plain(t, main(l, catches(on(0, place+1, place+2, "InitEx"))), s, class("U", "S", clinit()))
		dies(t, m, "InitEx")
		shows(t, m,
			fmt.Sprint("init M.main()V ", place, " S.<clinit>()V"), "throw S.<clinit>()V 2 MemEx",
			fmt.Sprint("throw M.main()V ", place, " InitEx"), fmt.Sprint("catch M.main()V ", place+2, " InitEx"),
			fmt.Sprint("throw M.main()V ", place+3+place, " InitEx"))
		same(t, "Init", []int{m.Init("S"), m.Init("U"), m.Init("Object")}, []int{3, 0, 2})
		same(t, "objects", []string{m.Heap().Site(1), m.Heap().Site(2), m.Heap().Site(3)}, []string{"S.<clinit>()V@1", "!InitEx", "!InitEx"})
		same(t, "Thrown", []int{m.Thrown(), m.Heap().Count()}, []int{3, 3})
	}
}

// P10.1: what a `<clinit>` catches itself is no failure.
func TestCaughtWithin(t *testing.T) {
	s := class("S", "Object", clinit(null, throw, pop, num(6), keep), catches(on(0, 2, 2, "NullEx")))
	m := plain(t, main(code(made("S"), back)), s)
	ends(t, m, 6)
	same(t, "Init", m.Init("S"), 2)
	shows(t, m, "init M.main()V 0 S.<clinit>()V", "throw S.<clinit>()V 1 NullEx", "catch S.<clinit>()V 2 NullEx", "end M.main()V 1")
}

// P10.1: one that fails within one that goes on: each is left by an InitEx of its own.
func TestFailsWithin(t *testing.T) {
	s := class("S", "Object", clinit(made("T"), pop))
	u := class("T", "Object", clinit(in(api.Callstatic, "M", "g", "()V")))
	g := static("g", "()V", num(1), num(0), in(api.Idiv), pop, back)
	m := plain(t, main(code(made("S"), back), g), s, u)
	dies(t, m, "InitEx")
	shows(t, m, "init M.main()V 0 S.<clinit>()V", "init S.<clinit>()V 0 T.<clinit>()V", "call T.<clinit>()V 0 M.g()V", "throw M.g()V 2 ArithEx", "throw S.<clinit>()V 0 InitEx", "throw M.main()V 0 InitEx")
	same(t, "Init", []int{m.Init("S"), m.Init("T"), m.Init("M")}, []int{3, 3, 2})
	same(t, "Thrown", []int{m.Thrown(), m.Heap().Count()}, []int{3, 3})
	// Caught in the one that goes on, it is done.
	s = class("S", "Object", clinit(made("T"), pop), catches(on(0, 1, 1, "InitEx")))
	m = plain(t, main(code(made("S"), back), g), s, u)
	ends(t, m, 0)
	same(t, "Init", []int{m.Init("S"), m.Init("T")}, []int{2, 3})
}

// P10.1: a super that failed fails each class below it, which stays at 0 itself; where the super was done first, it does not.
func TestFailedSuper(t *testing.T) {
	s := class("S", "Object", clinit(null, throw))
	l := code(made("U"), pop, made("U"), pop, made("T"), pop, back)
	m := plain(t, main(l, catches(on(0, 1, 1, ""), on(2, 3, 3, ""), on(4, 5, 5, ""))), s, class("T", "S", clinit()), class("U", "T", clinit()))
	state(t, m, Ended)
	shows(t, m, "init M.main()V 0 S.<clinit>()V", "throw S.<clinit>()V 1 NullEx",
		"throw M.main()V 0 InitEx", "catch M.main()V 1 InitEx", "throw M.main()V 2 InitEx", "catch M.main()V 3 InitEx", "throw M.main()V 4 InitEx", "catch M.main()V 5 InitEx", "end M.main()V 6")
	same(t, "Init", []int{m.Init("S"), m.Init("T"), m.Init("U")}, []int{3, 0, 0})
}

// P10.1: a `<clinit>` that is left by a Retval, too, lays nothing, and the instruction comes anew.
func TestClinitTells(t *testing.T) {
	s := class("S", "Object", shared("k", "I"), static("<clinit>", "()V", num(9), tell))
	m := begun(t, api.Script{}, main(code(num(1), in(api.Getstatic, "S", "k", "I"), in(api.Iadd), keep, back)), s)
	m.Run(4)
	frames(t, m, []Frame{{Method: entry, PC: 1, Locals: make([]api.Value, 6), Stack: []api.Value{vInt(1)}}})
	same(t, "Init", m.Init("S"), 2)
	m.Run(100)
	ends(t, m, 1)
}

// P10.1: an allocation is asked for behind the initialisation, and once.
func TestInitAheadOfAllocation(t *testing.T) {
	s := class("S", "Object", clinit(made("Object"), pop))
	m := played(t, fails(2), main(code(made("S"), back)), s)
	dies(t, m, "MemEx")
	shows(t, m, "init M.main()V 0 S.<clinit>()V", "throw M.main()V 0 MemEx")
	ends(t, played(t, fails(3), main(code(made("S"), back)), s), 0)
	m = played(t, fails(1), main(code(made("S"), back)), s)
	dies(t, m, "InitEx")
	shows(t, m, "init M.main()V 0 S.<clinit>()V", "throw S.<clinit>()V 0 MemEx", "throw M.main()V 0 InitEx")
}
