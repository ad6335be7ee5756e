package classfile

import (
	"slices"
	"testing"

	"lantern/api"
)

func wantPool(t *testing.T, what string, c api.Class, want ...string) {
	t.Helper()
	if got := Pool(c); !slices.Equal(got, want) {
		t.Errorf("P5.4: %q: Pool is %q, want %q", what, got, want)
	}
}

func TestPool(t *testing.T) {
	wantPool(t, "least", least(), "A", "Object")
	wantPool(t, "full", full(), "A", "Object", "J", "K", "x", "I", "s", "LA;", "z", "[[C",
		"f", "(I)LA;", "m", "(C)I", "", "<init>", "(LA;)V", "<clinit>", "()V",
		"all", "(IC)LB;", "B", "[LB;", "g", "Throwable")
	wantPool(t, "face", face(), "J", "Object", "K", "s", "C", "g", "(IC)LB;", "<clinit>", "()V")
	wantPool(t, "a text many times", odd(), "A", "LA;", "()V")
	wantPool(t, "an empty Super", top(), "Object", "", "<init>", "()V")
	for name, c := range samples() {
		wantPool(t, name, c, plainPool(c)...)
	}
}

func TestPoolOrder(t *testing.T) {
	c := api.Class{Name: "n", Super: "s", Implements: []string{"i", "j"}, Fields: []api.Field{{Name: "a", Desc: "b"}, {Name: "c", Desc: "d"}}, Methods: []api.Method{
		{Name: "e", Desc: "f", Code: []api.Instr{{Op: api.Callstatic, Class: "g", Name: "h", Desc: "k"}, {Op: api.Cast, Desc: "l"}}, Handlers: []api.Handler{{Class: "m"}, {Class: "o"}}},
		{Name: "p", Desc: "q", Code: []api.Instr{{Op: api.New, Class: "r"}}, Handlers: []api.Handler{{Class: "t"}}},
	}}
	wantPool(t, "each text once", c, "n", "s", "i", "j", "a", "b", "c", "d", "e", "f", "g", "h", "k", "l", "m", "o", "p", "q", "r", "t")
}

// The pool is that of any class, one that Check refuses too.
func TestPoolOfAny(t *testing.T) {
	wantPool(t, "zero", api.Class{}, "")
	wantPool(t, "wrong texts", api.Class{Name: "\xff", Implements: []string{"", "9", "\xff"}}, "\xff", "", "9")
	code := []api.Instr{{Op: 0, Class: "a", Name: "b", Desc: "c"}, {Op: -1, Class: "a"}, {Op: api.Ops + 1, Desc: "c"}, {Op: api.New, Class: "d", Name: "b", Desc: "c"}, {Op: api.Isinst, Class: "a", Name: "b", Desc: "e"}}
	wantPool(t, "no Op, and fields that an Op does not have", api.Class{Methods: []api.Method{{Name: "f", Desc: "g", Abstract: true, Code: code, Handlers: []api.Handler{{Class: "h"}}}}}, "", "f", "g", "d", "e", "h")
	many := withTexts(606)
	wantPool(t, "more than MaxPool", many, plainPool(many)...)
}

// unlike are changes of full, each of one field alone.
func unlike() map[string]func(c *api.Class) {
	m := func(turn func(m *api.Method)) func(c *api.Class) {
		return func(c *api.Class) { turn(&c.Methods[staticOne]) }
	}
	x := func(op int, turn func(x *api.Instr)) func(c *api.Class) {
		return func(c *api.Class) { turn(&c.Methods[plainOne].Code[op-1]) }
	}
	return map[string]func(c *api.Class){
		"Name":                func(c *api.Class) { c.Name = "B" },
		"Super":               func(c *api.Class) { c.Super = "" },
		"Interface":           func(c *api.Class) { c.Interface = true },
		"Abstract":            func(c *api.Class) { c.Abstract = false },
		"Implements":          func(c *api.Class) { c.Implements[1] = "J" },
		"Implements' order":   func(c *api.Class) { slices.Reverse(c.Implements) },
		"fewer Implements":    func(c *api.Class) { c.Implements = c.Implements[:1] },
		"no Implements":       func(c *api.Class) { c.Implements = nil },
		"a field's Name":      func(c *api.Class) { c.Fields[1].Name = "t" },
		"a field's Desc":      func(c *api.Class) { c.Fields[2].Desc = "C" },
		"a field's Static":    func(c *api.Class) { c.Fields[0].Static = true },
		"fields' order":       func(c *api.Class) { slices.Reverse(c.Fields) },
		"fewer fields":        func(c *api.Class) { c.Fields = c.Fields[:2] },
		"a method's Name":     m(func(m *api.Method) { m.Name = "n" }),
		"a method's Desc":     m(func(m *api.Method) { m.Desc = "(I)I" }),
		"a method's Static":   func(c *api.Class) { c.Methods[plainOne].Static = true },
		"a method's Abstract": func(c *api.Class) { c.Methods[abstractOne].Abstract = false },
		"a method's Stack":    m(func(m *api.Method) { m.Stack = 4 }),
		"a method's Locals":   m(func(m *api.Method) { m.Locals = 2 }),
		"methods' order":      func(c *api.Class) { slices.Reverse(c.Methods) },
		"fewer methods":       func(c *api.Class) { c.Methods = c.Methods[:4] },
		"an Op":               m(func(m *api.Method) { m.Code[0].Op = api.Load }),
		"less code":           m(func(m *api.Method) { m.Code = m.Code[:2] }),
		"more code":           m(func(m *api.Method) { m.Code = append(m.Code, api.Instr{Op: api.Nop}) }),
		"code's order":        m(func(m *api.Method) { slices.Reverse(m.Code) }),
		"A":                   x(api.Iconst, func(x *api.Instr) { x.A++ }),
		"A of a jump":         x(api.Ifsame, func(x *api.Instr) { x.A = 0 }),
		"B":                   x(api.Cconst, func(x *api.Instr) { x.B = 0 }),
		"Class":               x(api.New, func(x *api.Instr) { x.Class = "A" }),
		"Class of a call":     x(api.Callspecial, func(x *api.Instr) { x.Class = "A" }),
		"Name of a field":     x(api.Getfield, func(x *api.Instr) { x.Name = "z" }),
		"Desc of a field":     x(api.Putstatic, func(x *api.Instr) { x.Desc = "C" }),
		"Desc of a cast":      x(api.Cast, func(x *api.Instr) { x.Desc = "LB;" }),
		"From":                m(func(m *api.Method) { m.Handlers[1].From = 0 }),
		"To":                  m(func(m *api.Method) { m.Handlers[1].To = 3 }),
		"At":                  m(func(m *api.Method) { m.Handlers[1].At = 1 }),
		"a handler's Class":   m(func(m *api.Method) { m.Handlers[1].Class = "" }),
		"handlers' order":     m(func(m *api.Method) { slices.Reverse(m.Handlers) }),
		"fewer handlers":      m(func(m *api.Method) { m.Handlers = m.Handlers[:1] }),
	}
}

func wantSame(t *testing.T, what string, a, b api.Class, want bool) {
	t.Helper()
	if Same(a, b) != want || Same(b, a) != want {
		t.Errorf("P5.4: %q: Same is %v and %v, want %v", what, Same(a, b), Same(b, a), want)
	}
}

func TestSame(t *testing.T) {
	for name, c := range samples() {
		wantSame(t, name, c, c, true)
		wantSame(t, name+", of other memory", c, deep(c), true)
	}
	for name, turn := range unlike() {
		c := full()
		turn(&c)
		wantSame(t, name, c, full(), false)
		wantSame(t, name+", itself", c, deep(c), true)
	}
	for a, x := range map[string]api.Class{"least": least(), "full": full(), "face": face(), "partial": partial(), "top": top(), "odd": odd(), "zero": {}} {
		for b, y := range map[string]api.Class{"least": least(), "full": full(), "face": face(), "partial": partial(), "top": top(), "odd": odd(), "zero": {}} {
			wantSame(t, a+" and "+b, x, y, a == b)
		}
	}
}

// Classes that differ are written unlike.
func TestUnlikeBytes(t *testing.T) {
	seen := map[string]string{}
	b, _ := Encode(full())
	seen[string(b)] = "full"
	for name, turn := range unlike() {
		c := full()
		turn(&c)
		b, e := Encode(c)
		if other := seen[string(b)]; e == api.OK && other != "" {
			t.Errorf("P5.2: %q and %s have the same bytes", name, other)
		}
		seen[string(b)] = name
	}
}

func TestSameNilAndEmpty(t *testing.T) {
	a := api.Class{Name: "A", Methods: []api.Method{{Name: "f", Desc: "()V", Abstract: true}}}
	b := api.Class{Name: "A", Implements: []string{}, Fields: []api.Field{}, Methods: []api.Method{{Name: "f", Desc: "()V", Abstract: true, Code: []api.Instr{}, Handlers: []api.Handler{}}}}
	wantSame(t, "nil and empty lists", a, b, true)
	x, _ := Encode(a)
	y, _ := Encode(b)
	if len(x) == 0 || !slices.Equal(x, y) {
		t.Errorf("P5.2: nil and empty lists: %v, %v", x, y)
	}
}

// littered has, in each instruction, something in the fields that its Op does not have.
func littered(c api.Class) api.Class {
	c = deep(c)
	for _, m := range c.Methods {
		for i := range m.Code {
			x := &m.Code[i]
			litter := api.Instr{Op: x.Op, A: 1 << 40, B: -1 << 40, Class: "<litter>", Name: "\xff", Desc: longName(9) + longName(9)}
			if n := opNumbers(*x); len(n) > 0 {
				litter.A = x.A
			}
			if n := opNumbers(*x); len(n) > 1 {
				litter.B = x.B
			}
			switch texts := opTexts(*x); {
			case len(texts) == 3:
				litter.Class, litter.Name, litter.Desc = x.Class, x.Name, x.Desc
			case len(texts) == 1 && x.Op == api.New:
				litter.Class = x.Class
			case len(texts) == 1:
				litter.Desc = x.Desc
			}
			*x = litter
		}
	}
	return c
}

// What an Op does not have is neither compared, nor checked, nor written.
func TestWhatAnOpDoesNotHave(t *testing.T) {
	for name, c := range samples() {
		l := littered(c)
		wantSame(t, name, c, l, true)
		wantCheck(t, name, l, api.OK)
		wantPool(t, name, l, plainPool(c)...)
		x, _ := Encode(c)
		y, _ := Encode(l)
		if !slices.Equal(x, y) {
			t.Errorf("P5.2: %q: what an Op does not have is written", name)
		}
	}
}

// Same is asked of any two classes.
func TestSameOfAny(t *testing.T) {
	with := func(x api.Instr) api.Class { return api.Class{Methods: []api.Method{{Code: []api.Instr{x}}}} }
	wantSame(t, "no Op", with(api.Instr{Op: 99}), with(api.Instr{Op: 99}), true)
	wantSame(t, "two that are none", with(api.Instr{Op: 99}), with(api.Instr{Op: 98}), false)
	wantSame(t, "zero", api.Class{}, api.Class{Fields: []api.Field{{}}}, false)
	wantSame(t, "numbers out of all limits", api.Class{Methods: []api.Method{{Stack: -1}}}, api.Class{Methods: []api.Method{{Stack: 255}}}, false)
}
