package interp

import (
	"fmt"
	"testing"

	"lantern/api"
)

// family is A, B below it, C below that; F is an interface of A, G one of B; each has methods that tell who they are.
func family() []api.Class {
	who := func(n int) part { return virtual("who", "()I", num(n), tell) }
	return []api.Class{
		class("A", "Object", implements("F"), who(1), virtual("only", "()I", num(10), tell), static("st", "()I", num(100), tell), birth),
		class("B", "A", implements("G"), who(2), static("st", "()I", num(200), tell)),
		class("C", "B", virtual("more", "()I", num(30), tell)),
		face("F", open("who", "()I")),
		face("G", implements("H"), open("only", "()I")),
		face("H", open("who", "()I")),
		class("P", "Object", abstract, implements("F")),
		class("Q", "P", virtual("who", "()I", num(7), tell)),
	}
}

// P10.1: which method a call runs: of a static one and of Callspecial the one that it names, else the one of the object's class.
func TestTargets(t *testing.T) {
	for _, c := range []struct {
		made string
		x    api.Instr
		to   string
		told int
	}{
		{"A", in(api.Callvirtual, "A", "who", "()I"), "A.who()I", 1},
		{"B", in(api.Callvirtual, "A", "who", "()I"), "B.who()I", 2},
		{"C", in(api.Callvirtual, "A", "who", "()I"), "B.who()I", 2},
		{"C", in(api.Callvirtual, "C", "who", "()I"), "B.who()I", 2},
		{"C", in(api.Callvirtual, "C", "only", "()I"), "A.only()I", 10},
		{"C", in(api.Callvirtual, "C", "more", "()I"), "C.more()I", 30},
		{"Q", in(api.Callvirtual, "P", "who", "()I"), "Q.who()I", 7},
		{"A", in(api.Callinterface, "F", "who", "()I"), "A.who()I", 1},
		{"C", in(api.Callinterface, "F", "who", "()I"), "B.who()I", 2},
		{"C", in(api.Callinterface, "G", "who", "()I"), "B.who()I", 2},
		{"C", in(api.Callinterface, "H", "who", "()I"), "B.who()I", 2},
		{"B", in(api.Callinterface, "G", "only", "()I"), "A.only()I", 10},
		{"Q", in(api.Callinterface, "F", "who", "()I"), "Q.who()I", 7},
		{"C", in(api.Callspecial, "A", "who", "()I"), "A.who()I", 1},
		{"C", in(api.Callspecial, "B", "who", "()I"), "B.who()I", 2},
		{"C", in(api.Callspecial, "C", "who", "()I"), "B.who()I", 2},
		{"C", in(api.Callspecial, "B", "only", "()I"), "A.only()I", 10},
		{"", in(api.Callstatic, "A", "st", "()I"), "A.st()I", 100},
		{"", in(api.Callstatic, "B", "st", "()I"), "B.st()I", 200},
		{"", in(api.Callstatic, "C", "st", "()I"), "B.st()I", 200},
	} {
		lay := code(num(1000))
		if c.made != "" {
			lay = code(lay, made(c.made))
		}
		m := begun(t, api.Script{}, append(family(), main(code(lay, c.x, in(api.Iadd), keep, back)))...)
		m.Run(len(lay) + 1)
		locals := make([]api.Value, 6)
		if c.made != "" {
			locals[0] = vRef(1)
		}
		frames(t, m, []Frame{
			{Method: entry, PC: len(lay), Locals: make([]api.Value, 6), Stack: []api.Value{vInt(1000)}},
			{Method: c.to, PC: 0, Locals: locals},
		})
		shows(t, m, fmt.Sprint("call M.main()V ", len(lay), " ", c.to))
		m.Run(2)
		frames(t, m, []Frame{{Method: entry, PC: len(lay) + 1, Locals: make([]api.Value, 6), Stack: []api.Value{vInt(1000), vInt(c.told)}}})
		m.Run(100)
		ends(t, m, 1000+c.told)
	}
}

// P10.1: an array is called as an Object is: what a Callspecial names runs on it; a Dispatch finds no more than Object has.
func TestCallOnArray(t *testing.T) {
	m := plain(t, main(code(list(2, "I"), in(api.Callspecial, "Object", "<init>", "()V"), back)))
	ends(t, m, 0)
	shows(t, m, "call M.main()V 2 Object.<init>()V", "end M.main()V 3")
	m = plain(t, append(family(), main(code(list(2, "LA;"), in(api.Callspecial, "A", "who", "()I"), keep, back)))...)
	ends(t, m, 1)
	for _, x := range []api.Instr{in(api.Callvirtual, "A", "who", "()I"), in(api.Callinterface, "F", "who", "()I")} {
		m = begun(t, api.Script{}, append(family(), main(code(list(2, "LA;"), x, keep, back)))...)
		same(t, "State", m.Run(100), Stuck)
		same(t, "Events", len(m.Events()), 0)
	}
}

// P10.1: the receiver and the parameters are the first locals, in order; what is below them stays on the stack.
func TestArguments(t *testing.T) {
	d := "(ICLObject;[I)V"
	for _, x := range []api.Instr{in(api.Callstatic, "A", "s", d), in(api.Callspecial, "A", "v", d), in(api.Callvirtual, "A", "v", d)} {
		lay := code(num(9))
		args := []api.Value{}
		if x.Op != api.Callstatic {
			lay = code(lay, in(api.Load, 4))
			args = append(args, vRef(1))
		}
		lay = code(lay, num(5), in(api.Cconst, 1, 2), null, list(2, "I"))
		args = append(args, vInt(5), vCpx(1+2i), vRef(0), vRef(2))
		a := class("A", "Object", static("s", d, back), virtual("v", d, back))
		m := begun(t, api.Script{}, main(code(made("A"), in(api.Store, 4), lay, x, back)), a)
		m.Run(len(lay) + 3)
		f := m.Frames()
		values(t, "locals", f[1].Locals, append(args, make([]api.Value, 6-len(args))...))
		values(t, "stack", f[1].Stack, nil)
		values(t, "stack", f[0].Stack, []api.Value{vInt(9)})
		m.Step()
		f = m.Frames()
		values(t, "stack", f[0].Stack, []api.Value{vInt(9)})
		same(t, "place", []int{len(f), f[0].PC}, []int{1, len(lay) + 3})
	}
}

// P10.1: eight parameters, and a value of each Kind that is told.
func TestTold(t *testing.T) {
	for d, c := range map[string]struct {
		lay  []api.Instr
		want api.Value
	}{"I": {code(num(4)), vInt(4)}, "C": {code(in(api.Cconst, 3, 4)), vCpx(3 + 4i)}, "LA;": {code(null), vRef(0)}, "LObject;": {code(made("A")), vRef(1)}, "[I": {list(1, "I"), vRef(1)}} {
		f := static("f", "(IIIIIIII)"+d, in(api.Load, 7), pop, num(6), c.lay, tell)
		m := begun(t, api.Script{}, main(code(num(1), num(2), num(3), num(4), num(5), num(6), num(7), num(8), in(api.Callstatic, "M", "f", "(IIIIIIII)"+d), nop, back), tall(8), f, func(c *api.Class) { c.Methods[1].Locals = 8 }), sample())
		m.Run(9)
		values(t, "locals", last(t, m).Locals, []api.Value{vInt(1), vInt(2), vInt(3), vInt(4), vInt(5), vInt(6), vInt(7), vInt(8)})
		m.Run(4 + len(c.lay))
		values(t, "stack", last(t, m).Stack, []api.Value{c.want})
		same(t, "Frames", len(m.Frames()), 1)
	}
}

// P10.1: the Return and the Retval of the entry: it ends, at that place.
func TestEntryReturns(t *testing.T) {
	for _, l := range [][]api.Instr{code(back), code(num(3), nop, back), code(num(3), tell), code(null, in(api.Cconst, 1, 2), tell)} {
		m := plain(t, main(l))
		ends(t, m, 0)
		shows(t, m, fmt.Sprint("end M.main()V ", len(l)-1))
		same(t, "Steps", m.Steps(), len(l))
	}
	m := plain(t, main(code(num(1), in(api.Ifzero, 0), back, back)))
	shows(t, m, "end M.main()V 2")
}

// chain is a method that calls itself as often as its parameter says, and then does what is laid behind it.
func chain(deepest ...any) part {
	l := code(in(api.Load, 0), in(api.Ifzero, 7), in(api.Load, 0), num(1), in(api.Isub), in(api.Callstatic, "M", "f", "(I)V"), back)
	return static("f", "(I)V", l, code(deepest...), back)
}

// deep is a main that calls f so that there are as many frames, and then does what is given.
func deep(frames int, deepest ...any) api.Class {
	return main(code(num(frames-2), in(api.Callstatic, "M", "f", "(I)V"), back), chain(deepest...))
}

// P10.1: 30 frames may be; a call that would make one more is a DepthEx, with no event of its own.
func TestDepth(t *testing.T) {
	m := begun(t, api.Script{}, deep(30))
	most := 0
	for m.Step() == Runs {
		most = max(most, len(m.Frames()))
	}
	ends(t, m, 0)
	same(t, "frames, events", []int{most, len(m.Events())}, []int{30, 30})
	m = plain(t, deep(31))
	dies(t, m, "DepthEx")
	l := m.Events()
	same(t, "events", len(l), 30)
	same(t, "the last one", l[29], api.Event{Kind: api.EThrow, Where: "M.f(I)V", PC: 5, What: "DepthEx"})
	for _, e := range l[:29] {
		same(t, "Kind", e.Kind, api.ECall)
	}
}

// P10.1: each kind of call, at 30 frames; null is looked at first, natives but call take no frame.
func TestDepthOfCalls(t *testing.T) {
	classes := append(family(), class("J", "Object", implements("Task"), virtual("run", "()V", back)))
	for _, c := range []struct {
		l    []api.Instr
		dies string
	}{
		{code(in(api.Callstatic, "A", "st", "()I"), pop), "DepthEx"},
		{code(made("A"), in(api.Callspecial, "A", "<init>", "()V")), "DepthEx"},
		{code(made("A"), in(api.Callvirtual, "A", "who", "()I"), pop), "DepthEx"},
		{code(made("A"), in(api.Callinterface, "F", "who", "()I"), pop), "DepthEx"},
		{code(made("J"), in(api.Callstatic, "Sys", "call", "(LTask;)V")), "DepthEx"},
		{code(null, in(api.Callspecial, "A", "<init>", "()V")), "NullEx"},
		{code(null, in(api.Callvirtual, "A", "who", "()I"), pop), "NullEx"},
		{code(null, in(api.Callinterface, "F", "who", "()I"), pop), "NullEx"},
		{code(null, in(api.Callstatic, "Sys", "call", "(LTask;)V")), "NullEx"},
		{code(in(api.Callstatic, "Sys", "pick", "()I"), pop), ""},
		{code(in(api.Callstatic, "Sys", "fresh", "()LObject;"), pop), ""},
		{code(null, in(api.Callstatic, "Sys", "echo", "(LObject;)LObject;"), pop), ""},
	} {
		m := plain(t, append(classes, deep(30, c.l))...)
		if c.dies == "" {
			ends(t, m, 0)
		} else {
			dies(t, m, c.dies)
		}
		m = plain(t, append(classes, deep(29, c.l))...)
		if c.dies == "NullEx" {
			dies(t, m, "NullEx")
		} else {
			ends(t, m, 0)
		}
	}
}

// P10.1: a call at 30 frames asks for initialisation ahead of that.
func TestDepthBehindInit(t *testing.T) {
	m := plain(t, deep(30, in(api.Callstatic, "S", "f", "()V")), counted())
	dies(t, m, "DepthEx")
	same(t, "Init and r", []int{m.Init("S"), kept(m)}, []int{2, 1})
}

// P10.1: what a DepthEx leaves, it leaves frame by frame, to the handler that has it.
func TestDepthCaught(t *testing.T) {
	l := main(code(num(40), in(api.Callstatic, "M", "f", "(I)V"), back, pop, num(8), keep, back), catches(on(1, 2, 3, "DepthEx")), chain())
	ends(t, plain(t, l), 8)
	l = main(code(num(40), in(api.Callstatic, "M", "f", "(I)V"), back), chain(), catches(on(5, 6, 8, "DepthEx")), func(c *api.Class) {
		c.Methods[1].Code = code(c.Methods[1].Code, pop, in(api.Getstatic, "M", "r", "I"), num(1), in(api.Iadd), keep, back)
		c.Methods[1].Handlers[0].At = 8
	})
	m := plain(t, l)
	ends(t, m, 1)
	n := len(m.Events())
	same(t, "events", m.Events()[n-3:], []api.Event{{Kind: api.EThrow, Where: "M.f(I)V", PC: 5, What: "DepthEx"}, {Kind: api.ECatch, Where: "M.f(I)V", PC: 8, What: "DepthEx"}, {Kind: api.EEnd, Where: entry, PC: 2}})
}
