package resolve

import (
	"reflect"
	"testing"

	"lantern/api"
	"lantern/link"
)

// methodSample has methods of one Name in many places; each one with code has a mark of its own:
//
//	interfaces: Far;  Near above Far;  Zed
//	Base (Near), abstract <- Mid (Zed), abstract <- Leaf;  Other
func methodSample() []api.Class {
	return []api.Class{
		face("Zed", open("k", "()V"), open("z", "()V"), open("h", "()V"), marked("<clinit>", "()V", true, 1)),
		face("Near", implements("Far"), open("k", "()V"), open("near", "()V"), open("up", "()V")),
		face("Far", open("k", "()V"), open("far", "()I"), marked("<clinit>", "()V", true, 2)),
		class("Other", "Object", marked("m", "()V", false, 3), marked("fit", "()V", true, 4)),
		class("Base", "Object", abstract, implements("Near"),
			marked("m", "()V", false, 10), marked("m", "(I)V", false, 11), marked("st", "()V", true, 12), marked("turn", "()V", true, 13),
			marked("both", "()V", false, 14), marked("up", "()V", false, 15), open("a", "()V"), marked("h", "()V", false, 16), marked("<init>", "()V", false, 17), marked("<init>", "(I)V", false, 18)),
		class("Mid", "Base", abstract, implements("Zed"),
			marked("m", "()V", false, 20), marked("turn", "()V", false, 21), marked("both", "()V", true, 22), open("h", "()V"), open("late", "()V"), marked("<clinit>", "()V", true, 23)),
		class("Leaf", "Mid",
			marked("m", "(C)V", false, 30), marked("k", "()V", false, 31), marked("z", "()V", false, 32), marked("near", "()V", false, 33), marked("far", "()I", false, 34),
			marked("a", "()V", false, 35), marked("late", "()V", false, 36), marked("<init>", "()V", false, 37)),
	}
}

// declared is what the class l says of its own method.
func declared(t *testing.T, l []api.Class, owner, name, d string) api.Method {
	t.Helper()
	for _, c := range append(link.Builtin(), l...) {
		for _, m := range c.Methods {
			if c.Name == owner && m.Name == name && m.Desc == d {
				return m
			}
		}
	}
	t.Fatalf("%q has no %q %q", owner, name, d)
	return api.Method{}
}

// methodRow is where a method is found; an empty owner: nowhere.
type methodRow struct {
	class, name, desc string
	owner             string
}

// found holds an owner and a method that were told against the row.
func (x methodRow) found(t *testing.T, what string, l []api.Class, owner string, m api.Method) {
	t.Helper()
	switch {
	case owner != x.owner:
		t.Errorf("%s of %.40q, %.40q, %.40q: owner %q, want %q", what, x.class, x.name, x.desc, owner, x.owner)
	case owner == "" && !nothing(m):
		t.Errorf("%s of %.40q, %.40q, %.40q: none, but a method %+v", what, x.class, x.name, x.desc, m)
	case owner != "" && !reflect.DeepEqual(m, declared(t, l, owner, x.name, x.desc)):
		t.Errorf("%s of %.40q, %.40q, %.40q: owner %q, but another method: %+v", what, x.class, x.name, x.desc, owner, m)
	}
}

// errorOf is the error beside that owner.
func errorOf(owner string) api.Errno {
	if owner == "" {
		return api.ErrLink
	}
	return api.OK
}

func (x methodRow) is(t *testing.T, p *link.Prog, l []api.Class) {
	t.Helper()
	owner, m, e := Method(p, x.class, x.name, x.desc)
	x.found(t, "Method", l, owner, m)
	if e != errorOf(x.owner) {
		t.Errorf("Method(%.40q, %.40q, %.40q): error %d", x.class, x.name, x.desc, e)
	}
}

// P8.1: Method.
func TestMethod(t *testing.T) {
	l := methodSample()
	p := linked(t, l...)
	for _, x := range []methodRow{
		// In the class itself, in a super (the nearer one), abstract or not, static or not.
		{"Base", "m", "()V", "Base"}, {"Mid", "m", "()V", "Mid"}, {"Leaf", "m", "()V", "Mid"},
		{"Base", "a", "()V", "Base"}, {"Mid", "a", "()V", "Base"}, {"Leaf", "a", "()V", "Leaf"},
		{"Mid", "h", "()V", "Mid"}, {"Leaf", "h", "()V", "Mid"}, {"Base", "h", "()V", "Base"},
		{"Base", "st", "()V", "Base"}, {"Leaf", "st", "()V", "Base"},
		{"Leaf", "late", "()V", "Leaf"}, {"Mid", "late", "()V", "Mid"},
		// One Name with two Descs.
		{"Base", "m", "(I)V", "Base"}, {"Leaf", "m", "(I)V", "Base"}, {"Leaf", "m", "(C)V", "Leaf"},
		// A static one beside one that is not, with one Name and Desc: the nearer one.
		{"Base", "turn", "()V", "Base"}, {"Mid", "turn", "()V", "Mid"}, {"Leaf", "turn", "()V", "Mid"},
		{"Base", "both", "()V", "Base"}, {"Mid", "both", "()V", "Mid"}, {"Leaf", "both", "()V", "Mid"},
		// In an interface: of its own, of a super, of an interface; in itself.
		{"Base", "near", "()V", "Near"}, {"Mid", "near", "()V", "Near"}, {"Mid", "z", "()V", "Zed"},
		{"Base", "far", "()I", "Far"}, {"Mid", "far", "()I", "Far"}, {"Near", "far", "()I", "Far"},
		{"Zed", "z", "()V", "Zed"}, {"Near", "near", "()V", "Near"},
		// In two interfaces: by bytes the first. But an interface is its own super.
		{"Base", "k", "()V", "Far"}, {"Mid", "k", "()V", "Far"}, {"Near", "k", "()V", "Near"}, {"Zed", "k", "()V", "Zed"},
		// In a super and in an interface: the super's.
		{"Base", "up", "()V", "Base"}, {"Leaf", "up", "()V", "Base"}, {"Near", "up", "()V", "Near"},
		{"Mid", "<clinit>", "()V", "Mid"}, {"Leaf", "<clinit>", "()V", "Mid"}, {"Base", "<clinit>", "()V", "Far"},
		// Of the given classes.
		{"Leaf", "<init>", "()V", "Leaf"}, {"Mid", "<init>", "()V", "Base"}, {"Leaf", "<init>", "(I)V", "Base"}, {"Other", "<init>", "()V", "Object"},
		{"Near", "<init>", "()V", "Object"}, {"Task", "<init>", "()V", "Object"}, {"Sys", "<init>", "()V", "Object"}, {"Object", "<init>", "()V", "Object"},
		{"NullEx", "<init>", "()V", "NullEx"}, {"Throwable", "<init>", "()V", "Throwable"}, {"Task", "run", "()V", "Task"},
		{"Sys", "pick", "()I", "Sys"}, {"Sys", "echo", "(LObject;)LObject;", "Sys"}, {"Sys", "fresh", "()LObject;", "Sys"}, {"Sys", "call", "(LTask;)V", "Sys"},
		// In none.
		{"Base", "m", "(C)V", ""}, {"Base", "late", "()V", ""}, {"Base", "z", "()V", ""}, {"Far", "near", "()V", ""}, {"Zed", "m", "()V", ""}, {"Other", "st", "()V", ""},
		{"Object", "m", "()V", ""}, {"Other", "<clinit>", "()V", ""}, {"Other", "<init>", "(I)V", ""}, {"Leaf", "run", "()V", ""}, {"Object", "pick", "()I", ""},
		{"Leaf", "m", "()I", ""}, {"Leaf", "M", "()V", ""}, {"Leaf", "m", "", ""}, {"Leaf", "", "()V", ""}, {"Leaf", "", "", ""}, {"Leaf", "x", "I", ""},
	} {
		x.is(t, p, l)
	}
}

// P8.1: a class that is none.
func TestMethodStrangers(t *testing.T) {
	l := methodSample()
	p := linked(t, l...)
	for _, name := range strangers() {
		methodRow{name, "m", "()V", ""}.is(t, p, l)
		if name != "<init>" {
			methodRow{"Leaf", name, "()V", ""}.is(t, p, l)
		}
		methodRow{name, "<init>", "()V", ""}.is(t, p, l)
		methodRow{"Leaf", "m", name, ""}.is(t, p, l)
		methodRow{name, name, name, ""}.is(t, p, l)
	}
}

// P8.1: the longest rows of supers and of interfaces, with the method at their ends.
func TestMethodLongRows(t *testing.T) {
	for _, end := range []api.Class{class("end", "MemEx", code("m", "()V")), face("end", open("m", "()V"))} {
		l := longRow(end)
		p := linked(t, l...)
		methodRow{"c0", "m", "()V", "end"}.is(t, p, l)
		methodRow{"c0", "m", "(I)V", ""}.is(t, p, l)
	}
}
