package resolve

import (
	"slices"
	"strings"
	"testing"

	"lantern/api"
	"lantern/link"
)

// part turns a class that is being made.
type part func(*api.Class)

func class(name, super string, parts ...part) api.Class {
	c := api.Class{Name: name, Super: super}
	for _, turn := range parts {
		turn(&c)
	}
	return c
}

// face is an interface.
func face(name string, parts ...part) api.Class {
	c := class(name, "Object", parts...)
	c.Interface, c.Abstract = true, true
	return c
}

func abstract(c *api.Class) { c.Abstract = true }

func implements(names ...string) part {
	return func(c *api.Class) { c.Implements = append(c.Implements, names...) }
}

// own is a field of each object.
func own(name, d string) part {
	return func(c *api.Class) { c.Fields = append(c.Fields, api.Field{Name: name, Desc: d}) }
}

// shared is a static field.
func shared(name, d string) part {
	return func(c *api.Class) { c.Fields = append(c.Fields, api.Field{Name: name, Desc: d, Static: true}) }
}

func method(m api.Method) part {
	return func(c *api.Class) { c.Methods = append(c.Methods, m) }
}

// open is an abstract method.
func open(name, d string) part {
	return method(api.Method{Name: name, Desc: d, Abstract: true})
}

// marked is a method whose code tells it from others: the mark is the number of its first instruction.
func marked(name, d string, static bool, mark int) part {
	code := []api.Instr{{Op: api.Iconst, A: mark}, {Op: api.Pop}, {Op: api.Return}}
	handlers := []api.Handler{{From: 0, To: 2, At: 2, Class: "NullEx"}}
	return method(api.Method{Name: name, Desc: d, Static: static, Stack: 1, Locals: 3, Code: code, Handlers: handlers})
}

func code(name, d string) part   { return marked(name, d, false, 0) }
func static(name, d string) part { return marked(name, d, true, 0) }

func linked(t *testing.T, l ...api.Class) *link.Prog {
	t.Helper()
	p, e, name := link.Classes(l...)
	if e != api.OK {
		t.Fatalf("Classes: %d of %q", e, name)
	}
	return p
}

// strangers are no classes of any program here.
func strangers() []string {
	return []string{
		"", "None", "object", "Object ", " Object", "LObject;", "[LObject;", "[Base", "base", "Bas", "Basee", "Sys.pick", "9", "V", "é", "\xff", "Obj\x00ect", "<init>",
		strings.Repeat("x", api.MaxName+1), strings.Repeat("[", 1<<16),
	}
}

// ops is all operations, and numbers that are none.
func ops() []int {
	l := []int{-1 << 31, -1, 0, api.Ops + 1, 1 << 31}
	for op := range api.Ops {
		l = append(l, op+1)
	}
	return l
}

func calls() []int {
	return []int{api.Callstatic, api.Callspecial, api.Callvirtual, api.Callinterface}
}

// otherOps is all that is none of those.
func otherOps(those ...int) []int {
	return slices.DeleteFunc(ops(), func(op int) bool { return slices.Contains(those, op) })
}

func named(op int, class, name, d string) api.Instr {
	return api.Instr{Op: op, Class: class, Name: name, Desc: d}
}

// nothing tells whether a method is the zero one.
func nothing(m api.Method) bool {
	return m.Name == "" && m.Desc == "" && !m.Static && !m.Abstract && m.Stack == 0 && m.Locals == 0 && len(m.Code) == 0 && len(m.Handlers) == 0
}
