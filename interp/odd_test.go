package interp

import (
	"math/rand"
	"testing"

	"lantern/api"
)

// odd makes up code that may be anything that 4's Check lets be, of names that lead somewhere and of some that don't.
type odd struct{ r *rand.Rand }

func (o odd) text(l ...string) string { return l[o.r.Intn(len(l))] }

func (o odd) class() string {
	return o.text("M", "A", "A", "B", "F", "E", "J", "Object", "Sys", "Task", "Q")
}

func (o odd) of() string {
	return o.text("I", "C", "LA;", "LB;", "LF;", "[I", "[LA;", "[[C", "LQ;", "LObject;")
}

func (o odd) ref() string {
	return o.text("LA;", "LB;", "LF;", "[I", "[LA;", "[[C", "LQ;", "LObject;", "LThrowable;")
}

func (o odd) instr(size, locals int) api.Instr {
	x := api.Instr{Op: 1 + o.r.Intn(api.Ops)}
	switch x.Op {
	case api.Iconst, api.Cconst:
		x.A, x.B = o.r.Intn(5)-1, o.r.Intn(5)-1
	case api.Load, api.Store:
		x.A = o.r.Intn(locals)
	case api.Goto, api.Ifzero, api.Ifnull, api.Ifsame:
		x.A = o.r.Intn(size)
	case api.New:
		x.Class = o.class()
	case api.Newarray:
		x.Desc = o.of()
	case api.Cast, api.Isinst:
		x.Desc = o.ref()
	case api.Getfield, api.Putfield, api.Getstatic, api.Putstatic:
		x.Class, x.Name, x.Desc = o.class(), o.text("i", "c", "a", "k", "q"), o.text("I", "C", "LA;")
	case api.Callstatic:
		x.Class, x.Name, x.Desc = o.class(), o.text("f", "g", "v", "pick", "fresh"), o.text("()I", "()V", "(I)V", "()LObject;")
		if o.r.Intn(3) == 0 {
			x = []api.Instr{sysPick, sysEcho, sysFresh, sysCall}[o.r.Intn(4)]
		}
	case api.Callspecial, api.Callvirtual, api.Callinterface:
		x.Class, x.Name, x.Desc = o.class(), o.text("v", "v", "run", "f"), o.text("()I", "()V", "(I)V")
	}
	return x
}

func (o odd) code() []api.Instr {
	size := 1 + o.r.Intn(25)
	var l []api.Instr
	for len(l) < size {
		x := o.instr(size, 4)
		// What takes values is rare behind what lays none, or all would be Stuck at once.
		if o.r.Intn(3) > 0 {
			x = []api.Instr{num(o.r.Intn(3)), null, made("A"), made("B"), made("J"), dup, in(api.Cconst, 1, 1), in(api.Load, o.r.Intn(4)), x}[o.r.Intn(9)]
		}
		l = append(l, x)
	}
	return l
}

func (o odd) method(name, d string, isStatic bool) part {
	x := api.Method{Name: name, Desc: d, Static: isStatic, Stack: o.r.Intn(8), Locals: 4, Code: o.code()}
	for range o.r.Intn(4) {
		from := o.r.Intn(len(x.Code))
		x.Handlers = append(x.Handlers, on(from, from+1+o.r.Intn(len(x.Code)-from), o.r.Intn(len(x.Code)), o.text("", "E", "Throwable", "Q", "F", "Object")))
	}
	return method(x)
}

func (o odd) program() []api.Class {
	k := shared("k", "I")
	perhaps := func() part {
		if o.r.Intn(3) > 0 {
			return func(*api.Class) {}
		}
		return o.method("<clinit>", "()V", true)
	}
	return []api.Class{
		class("M", "Object", k, o.method("main", "()V", true), o.method("g", "()V", true), o.method("f", "()I", true), perhaps()),
		class("A", "Object", k, own("i", "I"), own("c", "C"), own("a", "LA;"), birth, implements("F"), o.method("v", "()I", false), o.method("v", "(I)V", false), o.method("g", "(I)V", true), perhaps()),
		class("B", "A", own("i", "I"), shared("a", "LA;"), o.method("v", "()I", false), perhaps()),
		class("J", "Object", implements("Task"), o.method("run", "()V", false), perhaps()),
		class("E", "Throwable", abstract, open("v", "()V")),
		face("F", k, open("v", "()I"), perhaps()),
	}
}

// P10.1, P10.3: whatever code: no call panics, each ends; step by step it shows what it does in one go; what is Stuck stays.
func TestOddCode(t *testing.T) {
	ends := map[int]int{}
	for seed := range int64(4000) {
		o := odd{rand.New(rand.NewSource(seed))}
		p := linked(t, o.program()...)
		s := api.Script{Picks: []int{o.r.Intn(3), -5}, Fails: []int{o.r.Intn(20)}}
		m, e := New(p, entry, s)
		if e != api.OK {
			t.Fatal(e)
		}
		const most = 150
		for n := range most {
			before := m.State()
			m.Step()
			if before != Runs || m.State() == Runs && m.Steps() != n+1 {
				break
			}
			m.Frames()
		}
		other, _ := New(p, entry, s)
		other.Run(most)
		if got, want := whole(p, m), whole(p, other); got != want {
			t.Fatalf("seed %d:\n%s", seed, apart(got, want))
		}
		if m.State() != Runs {
			m.Run(20)
			same(t, "what stays", whole(p, m), whole(p, other))
		}
		if (m.State() == Ended || m.State() == Died) != (len(m.Frames()) == 0) || (m.State() == Died) != (m.Thrown() != 0) {
			t.Errorf("seed %d: State %d, %d frames, thrown %d", seed, m.State(), len(m.Frames()), m.Thrown())
		}
		ends[m.State()]++
	}
	for _, state := range []int{Runs, Ended, Died, Stuck} {
		if ends[state] < 20 {
			t.Errorf("too few of a kind: %v", ends)
		}
	}
}
