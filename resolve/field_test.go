package resolve

import (
	"testing"

	"lantern/api"
	"lantern/link"
)

// fieldSample has fields of one Name in many places:
//
//	interfaces: Far;  Near above Far;  Zed;  Alone above Zed
//	Base (Near) <- Mid (Zed) <- Leaf
func fieldSample() []api.Class {
	return []api.Class{
		face("Zed", shared("k", "I"), shared("z", "I"), shared("both", "C")),
		face("Near", implements("Far"), shared("k", "I"), shared("near", "I"), shared("x", "LNear;"), shared("up", "I")),
		face("Far", shared("k", "I"), shared("far", "LObject;")),
		face("Alone", implements("Zed"), shared("z", "C")),
		class("Leaf", "Mid", own("x", "LLeaf;"), own("k", "C")),
		class("Mid", "Base", implements("Zed"), own("x", "C"), shared("both", "I"), own("turn", "I"), own("near", "I")),
		class("Base", "Object", abstract, implements("Near"), own("x", "I"), own("both", "I"), shared("turn", "I"), shared("s", "[LBase;"), shared("up", "I")),
	}
}

// fieldRow is what is told of a field; an empty owner: ErrLink.
type fieldRow struct {
	class, name, desc string
	static            bool
	owner             string
}

func (x fieldRow) is(t *testing.T, p *link.Prog) {
	t.Helper()
	want := api.OK
	if x.owner == "" {
		want = api.ErrLink
	}
	if owner, e := Field(p, x.class, x.name, x.desc, x.static); owner != x.owner || e != want {
		t.Errorf("Field(%.40q, %.40q, %.40q, %v): %q, %d; want %q, %d", x.class, x.name, x.desc, x.static, owner, e, x.owner, want)
	}
}

// P8.1: Field.
func TestField(t *testing.T) {
	p := linked(t, fieldSample()...)
	for _, x := range []fieldRow{
		// In the class itself, in a super, in an interface: of its own, of a super, of an interface.
		{"Base", "x", "I", false, "Base"},
		{"Mid", "x", "I", false, "Base"},
		{"Leaf", "x", "I", false, "Base"},
		{"Mid", "s", "[LBase;", true, "Base"},
		{"Leaf", "s", "[LBase;", true, "Base"},
		{"Base", "near", "I", true, "Near"},
		{"Leaf", "near", "I", true, "Near"},
		{"Mid", "z", "I", true, "Zed"},
		{"Leaf", "z", "I", true, "Zed"},
		{"Base", "far", "LObject;", true, "Far"},
		{"Leaf", "far", "LObject;", true, "Far"},
		{"Near", "far", "LObject;", true, "Far"},
		{"Zed", "z", "I", true, "Zed"},
		{"Near", "near", "I", true, "Near"},
		{"Alone", "z", "C", true, "Alone"},
		// One Name with two Descs.
		{"Mid", "x", "C", false, "Mid"},
		{"Leaf", "x", "C", false, "Mid"},
		{"Leaf", "x", "LLeaf;", false, "Leaf"},
		{"Leaf", "x", "LNear;", true, "Near"},
		{"Alone", "z", "I", true, "Zed"},
		{"Leaf", "k", "C", false, "Leaf"},
		{"Leaf", "both", "C", true, "Zed"},
		// A static one beside one that is not, with one Name and Desc.
		{"Leaf", "both", "I", true, "Mid"},
		{"Leaf", "both", "I", false, "Base"},
		{"Mid", "both", "I", false, "Base"},
		{"Leaf", "turn", "I", true, "Base"},
		{"Leaf", "turn", "I", false, "Mid"},
		{"Mid", "near", "I", false, "Mid"},
		{"Mid", "near", "I", true, "Near"},
		// In two interfaces: by bytes the first, whichever is nearer. But an interface is its own super.
		{"Base", "k", "I", true, "Far"},
		{"Mid", "k", "I", true, "Far"},
		{"Leaf", "k", "I", true, "Far"},
		{"Near", "k", "I", true, "Near"},
		{"Alone", "k", "I", true, "Zed"},
		// In a super and in an interface: the super's.
		{"Base", "up", "I", true, "Base"},
		{"Leaf", "up", "I", true, "Base"},
		{"Near", "up", "I", true, "Near"},
		// In none: below, above, elsewhere, with another Name, Desc or Static.
		{"Base", "x", "C", false, ""},
		{"Base", "both", "I", true, ""},
		{"Mid", "x", "LLeaf;", false, ""},
		{"Zed", "z", "C", true, ""},
		{"Zed", "k", "C", false, ""},
		{"Far", "near", "I", true, ""},
		{"Object", "x", "I", false, ""},
		{"Throwable", "x", "I", false, ""},
		{"Task", "k", "I", true, ""},
		{"Sys", "k", "I", true, ""},
		{"Base", "s", "[LBase;", false, ""},
		{"Base", "near", "I", false, ""},
		{"Zed", "z", "I", false, ""},
		{"Leaf", "x", "Object", false, ""},
		{"Leaf", "X", "I", false, ""},
		{"Leaf", "x", "", false, ""},
		{"Leaf", "", "I", false, ""},
		{"Leaf", "", "", true, ""},
		{"Leaf", "Base.x", "I", false, ""},
		{"Leaf", "x", "I;", false, ""},
		{"Leaf", "x", "\xff", false, ""},
	} {
		x.is(t, p)
	}
}

// P8.1: a class that is none.
func TestFieldStrangers(t *testing.T) {
	p := linked(t, fieldSample()...)
	for _, name := range strangers() {
		for _, static := range []bool{false, true} {
			fieldRow{name, "x", "I", static, ""}.is(t, p)
			fieldRow{name, "k", "I", static, ""}.is(t, p)
			fieldRow{"Leaf", name, "I", static, ""}.is(t, p)
			fieldRow{"Leaf", "x", name, static, ""}.is(t, p)
			fieldRow{name, name, name, static, ""}.is(t, p)
		}
	}
}

// P8.1: the longest rows of supers and of interfaces, with the field at their ends.
func TestFieldLongRows(t *testing.T) {
	p := linked(t, longRow(class("end", "InitEx", own("x", "I"), shared("y", "I")))...)
	fieldRow{"c0", "x", "I", false, "end"}.is(t, p)
	fieldRow{"c0", "y", "I", true, "end"}.is(t, p)
	fieldRow{"c0", "y", "I", false, ""}.is(t, p)
	p = linked(t, longRow(face("end", shared("y", "I")))...)
	fieldRow{"c0", "y", "I", true, "end"}.is(t, p)
	fieldRow{"c0", "y", "C", true, ""}.is(t, p)
}

// longRow is as many classes as a program may have, each one below the next one, and the last one below end.
func longRow(end api.Class) []api.Class {
	l := []api.Class{end}
	for i := api.MaxClasses - 2; i >= 0; i-- {
		below := l[len(l)-1].Name
		next := class(number(i), below)
		if end.Interface {
			next = face(number(i), implements(below))
		}
		l = append(l, next)
	}
	return l
}

// number is c0, c1, ..
func number(i int) string {
	if i < 10 {
		return "c" + string(rune('0'+i))
	}
	return number(i/10) + string(rune('0'+i%10))
}
