package interp

import (
	"fmt"
	"math"
	"testing"

	"lantern/api"
)

var (
	sysPick  = in(api.Callstatic, "Sys", "pick", "()I")
	sysEcho  = in(api.Callstatic, "Sys", "echo", "(LObject;)LObject;")
	sysFresh = in(api.Callstatic, "Sys", "fresh", "()LObject;")
	sysCall  = in(api.Callstatic, "Sys", "call", "(LTask;)V")
)

// P10.1: pick tells the picks one by one, wrapped, and 0 behind them.
func TestPick(t *testing.T) {
	for _, c := range []struct{ picks, want []int }{
		{nil, []int{0, 0, 0}},
		{[]int{}, []int{0, 0}},
		{[]int{5}, []int{5, 0, 0}},
		{[]int{5, -6, 0, 7}, []int{5, -6, 0, 7, 0, 0}},
		{[]int{1<<32 + 3, 1 << 31, -1<<31 - 1, math.MaxInt, math.MinInt}, []int{3, math.MinInt32, math.MaxInt32, -1, 0, 0}},
	} {
		l := code()
		want := []api.Value{}
		for _, n := range c.want {
			l, want = code(l, sysPick), append(want, vInt(n))
		}
		m := begun(t, picks(c.picks...), main(code(l, nop, back)))
		m.Run(len(c.want))
		values(t, "stack", last(t, m).Stack, want)
		for i, e := range m.Events() {
			same(t, "event", e, api.Event{Kind: api.ENative, Where: entry, PC: i, What: "Sys.pick()I"})
		}
		same(t, "events, place and frames", []int{len(m.Events()), last(t, m).PC, len(m.Frames())}, []int{len(c.want), len(c.want), 1})
	}
}

// P10.1: picks are told in whatever method asks.
func TestPickElsewhere(t *testing.T) {
	f := static("f", "()I", sysPick, sysPick, pop, tell)
	m := played(t, picks(1, 2, 4, 8), main(code(sysPick, in(api.Callstatic, "M", "f", "()I"), sysPick, in(api.Iadd), in(api.Iadd), keep, back), f))
	ends(t, m, 1+2+8)
	shows(t, m, "native M.main()V 0 Sys.pick()I", "call M.main()V 1 M.f()I", "native M.f()I 0 Sys.pick()I", "native M.f()I 1 Sys.pick()I", "native M.main()V 2 Sys.pick()I", "end M.main()V 6")
}

// P10.1: echo tells its argument, null too.
func TestEcho(t *testing.T) {
	for want, lay := range [][]api.Instr{code(null), code(made("M")), code(made("M"), made("M"))} {
		m := begun(t, api.Script{}, main(code(num(3), lay, sysEcho, nop, back)))
		m.Run(len(lay) + 2)
		l := last(t, m).Stack
		values(t, "stack", l[len(l)-1:], []api.Value{vRef(want)})
		same(t, "place, height, count", []int{last(t, m).PC, len(l), m.Heap().Count()}, []int{len(lay) + 2, max(want, 1) + 1, want})
		shows(t, m, fmt.Sprint("native M.main()V ", len(lay)+1, " Sys.echo(LObject;)LObject;"))
	}
}

// P10.1: fresh allocates an Object with the site `fresh`, wherever it is asked.
func TestFresh(t *testing.T) {
	m := plain(t, main(code(made("M"), pop, sysFresh, keepRef, in(api.Callstatic, "M", "f", "()V"), back), static("f", "()V", sysFresh, pop, back)))
	ends(t, m, 0)
	h := m.Heap()
	for _, ref := range []int{2, 3} {
		same(t, "object", []any{h.Type(ref), h.Site(ref), len(h.Fields(ref)), h.Len(ref)}, []any{"LObject;", "fresh", 0, -1})
	}
	same(t, "o and Count", []int{keptRef(m), h.Count()}, []int{2, 3})
	shows(t, m, "native M.main()V 2 Sys.fresh()LObject;", "call M.main()V 4 M.f()V", "native M.f()V 0 Sys.fresh()LObject;", "end M.main()V 5")
}

// P10.1: call runs the object's run, whose frame lays nothing.
func TestCall(t *testing.T) {
	for _, leave := range [][]api.Instr{code(back), code(num(9), tell)} {
		j := class("J", "Object", implements("Task"), virtual("run", "()V", num(6), keep, leave))
		m := begun(t, api.Script{}, main(code(num(4), made("K"), sysCall, nop, back)), j, class("K", "J"))
		m.Run(3)
		locals := make([]api.Value, 6)
		locals[0] = vRef(1)
		frames(t, m, []Frame{
			{Method: entry, PC: 2, Locals: make([]api.Value, 6), Stack: []api.Value{vInt(4)}},
			{Method: "J.run()V", PC: 0, Locals: locals},
		})
		shows(t, m, "native M.main()V 2 Sys.call(LTask;)V", "call M.main()V 2 J.run()V")
		m.Run(2 + len(leave))
		frames(t, m, []Frame{{Method: entry, PC: 3, Locals: make([]api.Value, 6), Stack: []api.Value{vInt(4)}}})
		m.Run(100)
		ends(t, m, 6)
	}
}

// P10.1: what run calls, and run itself where it is called as any method is, go on as any method does.
func TestCallCalls(t *testing.T) {
	j := class("J", "Object", implements("Task"), virtual("run", "()V", in(api.Load, 0), in(api.Callvirtual, "J", "n", "()I"), keep, back), virtual("n", "()I", num(7), tell))
	m := plain(t, main(code(made("J"), sysCall, back)), j)
	ends(t, m, 7)
	shows(t, m, "native M.main()V 1 Sys.call(LTask;)V", "call M.main()V 1 J.run()V", "call J.run()V 1 J.n()I", "end M.main()V 2")
	m = plain(t, main(code(made("J"), in(api.Callinterface, "Task", "run", "()V"), back)), j)
	ends(t, m, 7)
	shows(t, m, "call M.main()V 1 J.run()V", "call J.run()V 1 J.n()I", "end M.main()V 2")
}

// P10.1: call of null, and of an object whose class has no run.
func TestCallOfNone(t *testing.T) {
	m := plain(t, main(code(null, sysCall, back)))
	dies(t, m, "NullEx")
	shows(t, m, "native M.main()V 1 Sys.call(LTask;)V", "throw M.main()V 1 NullEx")
	for _, lay := range [][]api.Instr{code(made("Object")), code(made("M")), code(made("S")), list(1, "I"), list(1, "LTask;")} {
		m := begun(t, api.Script{}, main(code(lay, sysCall, back)), class("S", "Object", static("run", "()V", back), virtual("run", "()I", num(1), tell)))
		same(t, "State", m.Run(100), Stuck)
		same(t, "Frames", len(m.Frames()), 1)
	}
	// It needs no Task: the run is found by its name.
	ends(t, plain(t, main(code(made("S"), sysCall, back)), class("S", "Object", virtual("run", "()V", num(3), keep, back))), 3)
}

// P10.1: a run that throws: it goes on in the frame below, at the place of the call.
func TestCallThrows(t *testing.T) {
	j := class("J", "Object", implements("Task"), virtual("run", "()V", null, throw))
	l := main(code(made("J"), sysCall, back, pop, num(2), keep, back), catches(on(1, 2, 3, "NullEx")))
	m := plain(t, l, j)
	ends(t, m, 2)
	shows(t, m, "native M.main()V 1 Sys.call(LTask;)V", "call M.main()V 1 J.run()V", "throw J.run()V 1 NullEx", "catch M.main()V 3 NullEx", "end M.main()V 6")
	l.Methods[0].Handlers = nil
	m = plain(t, l, j)
	dies(t, m, "NullEx")
	same(t, "events", len(m.Events()), 3)
}

// P10.1: a call within what call runs, till there are too many frames.
func TestCallDeep(t *testing.T) {
	j := class("J", "Object", implements("Task"), virtual("run", "()V", in(api.Load, 0), sysCall, back))
	m := plain(t, main(code(made("J"), sysCall, back)), j)
	dies(t, m, "DepthEx")
	l := shown(m)
	same(t, "events", len(l), 2*29+2)
	same(t, "the last ones", l[2*29-1:], []string{"call J.run()V 1 J.run()V", "native J.run()V 1 Sys.call(LTask;)V", "throw J.run()V 1 DepthEx"})
}

// P10.1: which allocations fail: they are counted from 1, those that fail too, and not the machine's own exceptions.
func TestAllocations(t *testing.T) {
	three := code(made("M"), pop, list(2, "I"), pop, sysFresh, pop)
	places := []int{0, 3, 5}
	for _, c := range []struct {
		fails []int
		at    int
	}{
		{nil, -1}, {[]int{0}, -1}, {[]int{-1}, -1}, {[]int{4}, -1}, {[]int{math.MaxInt, math.MinInt, 1 << 32, 1<<32 + 1}, -1},
		{[]int{1}, 0}, {[]int{2}, 1}, {[]int{3}, 2}, {[]int{2, 2}, 1}, {[]int{3, 3, 3, 1, 2}, 0}, {[]int{9, 3, 0, 2, -5}, 1},
	} {
		m := played(t, fails(c.fails...), main(code(three, back)))
		if c.at < 0 {
			ends(t, m, 0)
			same(t, "Count", m.Heap().Count(), 3)
			continue
		}
		dies(t, m, "MemEx")
		same(t, "Count", m.Heap().Count(), c.at+1)
		e := m.Events()[len(m.Events())-1]
		same(t, "event", e, api.Event{Kind: api.EThrow, Where: entry, PC: places[c.at], What: "MemEx"})
	}
	shows(t, played(t, fails(3), main(code(three, back))), "native M.main()V 5 Sys.fresh()LObject;", "throw M.main()V 5 MemEx")
}

// P10.1: one that fails is counted; a machine exception, and what is out of bounds, are not.
func TestAllocationsCounted(t *testing.T) {
	try := func(l []api.Instr) []api.Instr { return code(l, pop) }
	tries := [][]api.Instr{try(code(made("M"))), try(code(num(1), num(0), in(api.Idiv))), try(list(-1, "I")), try(list(101, "C")), try(code(null, in(api.Alen))), try(code(made("M"))), try(code(sysFresh)), try(list(1, "I"))}
	var l []api.Instr
	var handlers []api.Handler
	for _, x := range tries {
		from := len(l)
		l = code(l, x)
		handlers = append(handlers, on(from, len(l)-1, len(l)-1, ""))
	}
	m := played(t, fails(4, 1, 3), main(code(l, back), catches(handlers...)))
	ends(t, m, 0)
	h := m.Heap()
	var sites []string
	for ref := range h.Count() {
		sites = append(sites, h.Site(ref+1))
	}
	same(t, "Sites", sites, []string{"!MemEx", "!ArithEx", "!BoundsEx", "!BoundsEx", "!NullEx", entry + "@15", "!MemEx", "!MemEx"})
}
