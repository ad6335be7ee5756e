package classfile

import (
	"fmt"
	"math/rand/v2"
	"slices"
	"strings"

	"lantern/api"
)

// least is the document's.
func least() api.Class { return api.Class{Name: "A", Super: "Object"} }

// everyOp is an instruction of each Op, all that its Op has filled, for a method of so many instructions and a local 0.
func everyOp() []api.Instr {
	l := make([]api.Instr, api.Ops)
	for i := range l {
		x := api.Instr{Op: i + 1}
		switch x.Op {
		case api.Iconst:
			x.A = -1 << 31
		case api.Cconst:
			x.A, x.B = 1<<31-1, -2
		case api.Goto, api.Ifzero, api.Ifnull, api.Ifsame:
			x.A = i
		case api.New:
			x.Class = "B"
		case api.Getfield, api.Putfield, api.Getstatic, api.Putstatic:
			x.Class, x.Name, x.Desc = "A", "x", "I"
		case api.Newarray, api.Cast, api.Isinst:
			x.Desc = "[LB;"
		case api.Callspecial:
			x.Class, x.Name, x.Desc = "B", "<init>", "()V"
		case api.Callstatic, api.Callvirtual, api.Callinterface:
			x.Class, x.Name, x.Desc = "J", "g", "(IC)LB;"
		}
		l[i] = x
	}
	return l
}

// full has something of everything: Methods are an abstract, a static, an `<init>`, a `<clinit>` and a plain one.
func full() api.Class {
	return api.Class{
		Name: "A", Super: "Object", Abstract: true, Implements: []string{"J", "K"},
		Fields: []api.Field{{Name: "x", Desc: "I"}, {Name: "s", Desc: "LA;", Static: true}, {Name: "z", Desc: "[[C"}},
		Methods: []api.Method{
			{Name: "f", Desc: "(I)LA;", Abstract: true},
			{Name: "m", Desc: "(C)I", Static: true, Stack: 3, Locals: 1, Code: []api.Instr{{Op: api.Iconst, A: -2}, {Op: api.Retval}, {Op: api.Throw}},
				Handlers: []api.Handler{{From: 0, To: 3, At: 2}, {From: 1, To: 2, At: 0, Class: "J"}}},
			{Name: "<init>", Desc: "(LA;)V", Stack: 1, Locals: 2, Code: []api.Instr{{Op: api.Return}}},
			{Name: "<clinit>", Desc: "()V", Static: true, Code: []api.Instr{{Op: api.Return}}},
			{Name: "all", Desc: "(IC)LB;", Stack: api.MaxStack, Locals: api.MaxLocals, Code: everyOp(),
				Handlers: []api.Handler{{From: 1, To: api.Ops, At: api.Ops - 1, Class: "Throwable"}}},
		},
	}
}

// face is an interface.
func face() api.Class {
	return api.Class{
		Name: "J", Super: "Object", Interface: true, Abstract: true, Implements: []string{"K"},
		Fields: []api.Field{{Name: "s", Desc: "C", Static: true}},
		Methods: []api.Method{
			{Name: "g", Desc: "(IC)LB;", Abstract: true},
			{Name: "<clinit>", Desc: "()V", Static: true, Stack: 1, Code: []api.Instr{{Op: api.Cconst}, {Op: api.Putstatic, Class: "J", Name: "s", Desc: "C"}, {Op: api.Return}}},
		},
	}
}

// partial is an abstract class, without fields or interfaces.
func partial() api.Class {
	return api.Class{Name: "P", Super: "A", Abstract: true, Methods: []api.Method{{Name: "f", Desc: "()V", Abstract: true}, {Name: "g", Desc: "()V", Abstract: true}}}
}

// top has no Super.
func top() api.Class {
	return api.Class{Name: "Object", Methods: []api.Method{{Name: "<init>", Desc: "()V", Locals: 1, Code: []api.Instr{{Op: api.Return}}}}}
}

// odd is a class that may be, though no program would take it.
func odd() api.Class {
	twice := api.Method{Name: "A", Desc: "()V", Static: true, Code: []api.Instr{{Op: api.New, Class: "A"}, {Op: api.Cast, Desc: "LA;"}}}
	return api.Class{Name: "A", Super: "A", Interface: true, Implements: []string{"A", "A"}, Fields: []api.Field{{Name: "A", Desc: "LA;"}, {Name: "A", Desc: "LA;"}}, Methods: []api.Method{twice, twice}}
}

// filled has as many of everything as there may be.
func filled() api.Class {
	c := api.Class{Name: longName(0), Super: longName(1)}
	for i := range api.MaxClasses {
		c.Implements = append(c.Implements, longName(i))
	}
	for i := range api.MaxFields {
		c.Fields = append(c.Fields, api.Field{Name: longName(i), Desc: "[[[[L" + longName(i) + ";", Static: i%2 == 0})
	}
	for i := range api.MaxMethods {
		m := api.Method{Name: longName(i), Desc: longMethod(i), Stack: api.MaxStack, Locals: api.MaxLocals}
		for range api.MaxCode {
			m.Code = append(m.Code, api.Instr{Op: api.Cconst, A: -1, B: 1<<31 - 1})
		}
		for range api.MaxHandlers {
			m.Handlers = append(m.Handlers, api.Handler{From: api.MaxCode - 1, To: api.MaxCode, At: api.MaxCode - 1, Class: longName(i)})
		}
		c.Methods = append(c.Methods, m)
	}
	// What room the pool has left goes to the longest texts that there are.
	for i := 0; len(plainPool(c)) < api.MaxPool; i++ {
		c.Methods[i%api.MaxMethods].Code[i/api.MaxMethods] = api.Instr{Op: api.Callstatic, Class: longName(0), Name: longName(0), Desc: longMethod(100 + i)}
	}
	return c
}

// longName is one of as many bytes as there may be, unlike those of other numbers.
func longName(n int) string {
	s := fmt.Sprint("n", n, "_")
	return s + strings.Repeat("x", api.MaxName-len(s))
}

// longMethod is a method's type, likewise.
func longMethod(n int) string {
	t := "[[[[L" + longName(n) + ";"
	return "(" + strings.Repeat(t, api.MaxParams) + ")" + t
}

// withTexts is a class whose pool has so many, from 6 to 606.
func withTexts(n int) api.Class {
	c := least()
	for i := range 3 {
		m := api.Method{Name: fmt.Sprint("m", i), Desc: "()V", Static: true}
		for k := range api.MaxCode {
			if at := api.MaxCode*i + k; at < n-6 {
				m.Code = append(m.Code, api.Instr{Op: api.New, Class: fmt.Sprint("c", at)})
			}
		}
		m.Code = append(m.Code, api.Instr{Op: api.Return})[:max(1, len(m.Code))]
		c.Methods = append(c.Methods, m)
	}
	return c
}

// samples are classes that may be, by name.
func samples() map[string]api.Class {
	l := map[string]api.Class{"least": least(), "full": full(), "face": face(), "partial": partial(), "top": top(), "odd": odd(), "filled": filled(), "texts": withTexts(api.MaxPool)}
	for i := range 60 {
		l[fmt.Sprint("made", i)] = made(rand.New(rand.NewPCG(5, uint64(i))))
	}
	return l
}

// made is one that is put together by lot, always the same of the same source.
func made(r *rand.Rand) api.Class {
	name := func() string { return []string{"A", "B", "C1", "_", longName(7)}[r.IntN(5)] }
	kind := func() string { return []string{"I", "C", "LA;", "[I", "[[[LB;"}[r.IntN(5)] }
	c := api.Class{Name: name(), Super: name(), Interface: r.IntN(2) == 0, Abstract: r.IntN(2) == 0}
	for range r.IntN(4) {
		c.Implements = append(c.Implements, name())
	}
	for range r.IntN(4) {
		c.Fields = append(c.Fields, api.Field{Name: name(), Desc: kind(), Static: r.IntN(2) == 0})
	}
	for range r.IntN(4) {
		if r.IntN(4) == 0 {
			c.Methods = append(c.Methods, api.Method{Name: name(), Desc: "(" + kind() + ")V", Abstract: true})
			continue
		}
		m := api.Method{Name: name(), Desc: "(" + kind() + kind() + ")" + kind(), Static: r.IntN(2) == 0, Stack: r.IntN(21), Locals: 3 + r.IntN(18)}
		for range 1 + r.IntN(12) {
			x := everyOp()[r.IntN(api.Ops)]
			if x.Op != api.Iconst && x.Op != api.Cconst {
				x.A = 0
			}
			m.Code = append(m.Code, x)
		}
		for range r.IntN(3) {
			m.Handlers = append(m.Handlers, api.Handler{From: 0, To: 1 + r.IntN(len(m.Code)), At: r.IntN(len(m.Code)), Class: []string{"", "A", "B"}[r.IntN(3)]})
		}
		c.Methods = append(c.Methods, m)
	}
	return c
}

// deep is a class like c that has no memory in common with it.
func deep(c api.Class) api.Class {
	c.Implements = slices.Clone(c.Implements)
	c.Fields = slices.Clone(c.Fields)
	c.Methods = slices.Clone(c.Methods)
	for i := range c.Methods {
		c.Methods[i].Code = slices.Clone(c.Methods[i].Code)
		c.Methods[i].Handlers = slices.Clone(c.Methods[i].Handlers)
	}
	return c
}
