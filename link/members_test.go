package link

import (
	"reflect"
	"testing"

	"lantern/api"
)

// TestMembers: each class's own fields and methods, each asked for at each class.
func TestMembers(t *testing.T) {
	l := append(sample(), roomy("R"), class("S", "R", abstract, code("run", "()V"), code("run", "(I)V"), static("f", "()V"), field("x", "C", false)))
	p := linked(t, l...)
	l = append(l, given()...)
	for _, c := range l {
		for _, d := range l {
			for _, f := range d.Fields {
				got, ok := p.Field(c.Name, f.Name)
				if want, there := ownField(c, f.Name); ok != there || got != want {
					t.Errorf("Field(%q, %q): %+v, %v; want %+v, %v", c.Name, f.Name, got, ok, want, there)
				}
			}
			for _, m := range d.Methods {
				got, ok := p.Method(c.Name, m.Name, m.Desc)
				if want, there := ownMethod(c, m.Name, m.Desc); ok != there || !reflect.DeepEqual(got, want) {
					t.Errorf("Method(%q, %q, %q): %+v, %v; want %+v, %v", c.Name, m.Name, m.Desc, got, ok, want, there)
				}
			}
		}
	}
}

func ownField(c api.Class, name string) (api.Field, bool) {
	for _, f := range c.Fields {
		if f.Name == name {
			return f, true
		}
	}
	return api.Field{}, false
}

func ownMethod(c api.Class, name, d string) (api.Method, bool) {
	for _, m := range c.Methods {
		if m.Name == name && m.Desc == d {
			return m, true
		}
	}
	return api.Method{}, false
}

func TestNoMembers(t *testing.T) {
	p := linked(t, sample()...)
	for _, x := range []struct {
		p    *Prog
		name string
	}{{nil, "Object"}, {nil, "I"}, {nil, ""}, {&Prog{}, "Object"}, {&Prog{}, "I"}, {p, "None"}, {p, ""}, {p, "i"}, {p, "LI;"}, {p, "Task"}} {
		if f, ok := x.p.Field(x.name, "x"); ok || f != (api.Field{}) {
			t.Errorf("Field(%q, x): %+v, %v", x.name, f, ok)
		}
		if m, ok := x.p.Method(x.name, "<init>", "()V"); ok || !reflect.DeepEqual(m, api.Method{}) {
			t.Errorf("Method(%q, <init>, ()V): %+v, %v", x.name, m, ok)
		}
	}
	for _, x := range [][2]string{{"run", ""}, {"", "()V"}, {"run", "(I)V"}, {"Run", "()V"}, {"x", "()V"}, {"", ""}} {
		if m, ok := p.Method("C", x[0], x[1]); ok || !reflect.DeepEqual(m, api.Method{}) {
			t.Errorf("Method(C, %q, %q): %+v, %v", x[0], x[1], m, ok)
		}
	}
}

func TestMembersAreNewMemory(t *testing.T) {
	p := linked(t, roomyList()...)
	want := seen(p)
	for range 2 {
		m, ok := p.Method("B", "run", "()V")
		if !ok || !reflect.DeepEqual(m, roomy("B").Methods[0]) {
			t.Errorf("Method(B, run, ()V): %+v, %v", m, ok)
		}
		spoil(&api.Class{Methods: []api.Method{m}})
		if !reflect.DeepEqual(seen(p), want) {
			t.Error("what was answered is turned, and so is the program")
		}
	}
}
