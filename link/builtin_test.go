package link

import (
	"reflect"
	"testing"

	"lantern/api"
	"lantern/classfile"
)

// given is the given classes, each written out as the document writes it.
func given() []api.Class {
	ret := []api.Instr{{Op: api.Return}}
	born := []api.Method{{Name: "<init>", Desc: "()V", Stack: 0, Locals: 1, Code: ret}}
	return []api.Class{
		{Name: "Object", Super: "", Methods: born},
		{Name: "Throwable", Super: "Object", Methods: born},
		{Name: "NullEx", Super: "Throwable", Methods: born},
		{Name: "BoundsEx", Super: "Throwable", Methods: born},
		{Name: "StoreEx", Super: "Throwable", Methods: born},
		{Name: "CastEx", Super: "Throwable", Methods: born},
		{Name: "ArithEx", Super: "Throwable", Methods: born},
		{Name: "MemEx", Super: "Throwable", Methods: born},
		{Name: "DepthEx", Super: "Throwable", Methods: born},
		{Name: "InitEx", Super: "Throwable", Methods: born},
		{Name: "Task", Super: "Object", Interface: true, Abstract: true, Methods: []api.Method{{Name: "run", Desc: "()V", Abstract: true}}},
		{Name: "Sys", Super: "Object", Abstract: true, Methods: []api.Method{
			{Name: "pick", Desc: "()I", Static: true, Locals: 0, Code: ret},
			{Name: "echo", Desc: "(LObject;)LObject;", Static: true, Locals: 1, Code: ret},
			{Name: "fresh", Desc: "()LObject;", Static: true, Locals: 0, Code: ret},
			{Name: "call", Desc: "(LTask;)V", Static: true, Locals: 1, Code: ret},
		}},
	}
}

func TestBuiltinIsAsWritten(t *testing.T) {
	got, want := Builtin(), given()
	if len(got) != len(want) {
		t.Fatalf("Builtin: %d classes, want %d", len(got), len(want))
	}
	for i := range want {
		if !reflect.DeepEqual(got[i], want[i]) {
			t.Errorf("Builtin, class %d:\n got %+v\nwant %+v", i, got[i], want[i])
		}
		if e := classfile.Check(got[i]); e != api.OK {
			t.Errorf("Check of %s: %d", got[i].Name, e)
		}
	}
}

func TestBuiltinIsInEachProgram(t *testing.T) {
	for _, p := range []*Prog{linked(t), linked(t, class("A", "Object"), face("I"))} {
		for _, want := range given() {
			got, ok := p.Class(want.Name)
			if !ok || !reflect.DeepEqual(got, want) {
				t.Errorf("Class(%q): %v\n got %+v\nwant %+v", want.Name, ok, got, want)
			}
		}
	}
}

func TestBuiltinIsNewMemory(t *testing.T) {
	l := Builtin()
	for i := range l {
		spoil(&l[i])
	}
	if !reflect.DeepEqual(Builtin(), given()) {
		t.Error("Builtin: what was answered first is turned, and so is what is answered then")
	}
	l = Builtin()
	l[0].Methods[0].Code[0].Op = 99
	l[11].Methods[0].Code[0].Op = 99
	for i, c := range l[1:10] {
		if c.Methods[0].Code[0].Op != api.Return {
			t.Errorf("Builtin: class %d shares its code with Object's", i+1)
		}
	}
	for _, m := range l[11].Methods[1:] {
		if m.Code[0].Op != api.Return {
			t.Errorf("Builtin: %s of Sys shares its code with another", m.Name)
		}
	}
}
