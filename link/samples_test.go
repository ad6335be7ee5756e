package link

import (
	"fmt"
	"testing"

	"lantern/api"
	"lantern/classfile"
)

// part turns a class that is being made.
type part func(*api.Class)

func class(name, super string, parts ...part) api.Class {
	c := api.Class{Name: name, Super: super}
	for _, turn := range parts {
		turn(&c)
	}
	return c
}

// face is an interface.
func face(name string, parts ...part) api.Class {
	c := class(name, "Object", parts...)
	c.Interface, c.Abstract = true, true
	return c
}

func abstract(c *api.Class) { c.Abstract = true }

func implements(names ...string) part {
	return func(c *api.Class) { c.Implements = append(c.Implements, names...) }
}

func field(name, d string, static bool) part {
	return func(c *api.Class) { c.Fields = append(c.Fields, api.Field{Name: name, Desc: d, Static: static}) }
}

func method(m api.Method) part {
	return func(c *api.Class) { c.Methods = append(c.Methods, m) }
}

func open(name, d string) part {
	return method(api.Method{Name: name, Desc: d, Abstract: true})
}

func code(name, d string) part {
	return method(api.Method{Name: name, Desc: d, Locals: 3, Code: []api.Instr{{Op: api.Return}}})
}

func static(name, d string) part {
	return method(api.Method{Name: name, Desc: d, Static: true, Locals: 3, Code: []api.Instr{{Op: api.Return}}})
}

// names are so many: c0, c1, ..
func names(n int) []string {
	var l []string
	for i := range n {
		l = append(l, fmt.Sprint("c", i))
	}
	return l
}

// row is classes, each with the next one as its Super, the last one with last.
func row(n int, last string) []api.Class {
	l := names(n)
	var out []api.Class
	for i, name := range l {
		super := last
		if i+1 < n {
			super = l[i+1]
		}
		out = append(out, class(name, super))
	}
	return out
}

// faceRow is interfaces, each with the next one as its interface, the last one with those.
func faceRow(n int, last ...string) []api.Class {
	l := names(n)
	var out []api.Class
	for i, name := range l {
		next := last
		if i+1 < n {
			next = l[i+1 : i+2]
		}
		out = append(out, face(name, implements(next...)))
	}
	return out
}

func join(l ...[]api.Class) []api.Class {
	var out []api.Class
	for _, x := range l {
		out = append(out, x...)
	}
	return out
}

func linked(t *testing.T, l ...api.Class) *Prog {
	t.Helper()
	p, e, name := Classes(l...)
	if p == nil || e != api.OK || name != "" {
		t.Fatalf("Classes: %v, %d, %q; want a program, 0, none", p, e, name)
	}
	return p
}

// refused asks for that error and that Name, and nothing beside them.
func refused(t *testing.T, what string, want api.Errno, wantName string, l ...api.Class) {
	t.Helper()
	p, e, name := Classes(l...)
	if p != nil || e != want || name != wantName {
		t.Errorf("%s: program %v, error %d of %q; want none, %d of %q", what, p != nil, e, name, want, wantName)
	}
}

func fine(t *testing.T, what string, l ...api.Class) {
	t.Helper()
	p, e, name := Classes(l...)
	if p == nil || e != api.OK || name != "" {
		t.Errorf("%s: program %v, error %d of %q; want one, 0, none", what, p != nil, e, name)
	}
}

func file(t *testing.T, c api.Class) []byte {
	t.Helper()
	b, e := classfile.Encode(c)
	if e != api.OK {
		t.Fatalf("Encode of %q: %d", c.Name, e)
	}
	return b
}

func files(t *testing.T, l ...api.Class) [][]byte {
	t.Helper()
	var out [][]byte
	for _, c := range l {
		out = append(out, file(t, c))
	}
	return out
}
