package resolve

import (
	"testing"

	"lantern/api"
	"lantern/link"
)

// callIs asks for the owner that a call by op tells; an empty one: ErrLink.
func (x methodRow) callIs(t *testing.T, op int, p *link.Prog, l []api.Class) {
	t.Helper()
	owner, m, e := Call(p, named(op, x.class, x.name, x.desc))
	x.found(t, "Call", l, owner, m)
	if e != errorOf(x.owner) {
		t.Errorf("Call %d of %.40q, %.40q, %.40q: error %d", op, x.class, x.name, x.desc, e)
	}
}

// byEach is what each of the four call operations tells of one name.
type byEach struct {
	class, name, desc                string
	static, special, virtual, inface string
}

func (x byEach) is(t *testing.T, p *link.Prog, l []api.Class) {
	t.Helper()
	for i, owner := range []string{x.static, x.special, x.virtual, x.inface} {
		methodRow{x.class, x.name, x.desc, owner}.callIs(t, calls()[i], p, l)
	}
}

// P8.2: what each of the four call operations tells of each kind of method.
func TestCall(t *testing.T) {
	l := methodSample()
	p := linked(t, l...)
	for _, x := range []byEach{
		// A static method: of the class itself, of a super, of the given classes.
		{"Base", "st", "()V", "Base", "", "", ""},
		{"Leaf", "st", "()V", "Base", "", "", ""},
		{"Other", "fit", "()V", "Other", "", "", ""},
		{"Sys", "pick", "()I", "Sys", "", "", ""},
		{"Sys", "echo", "(LObject;)LObject;", "Sys", "", "", ""},
		{"Sys", "fresh", "()LObject;", "Sys", "", "", ""},
		{"Sys", "call", "(LTask;)V", "Sys", "", "", ""},
		// One that is not.
		{"Base", "m", "()V", "", "Base", "Base", ""},
		{"Leaf", "m", "()V", "", "Mid", "Mid", ""},
		{"Leaf", "m", "(I)V", "", "Base", "Base", ""},
		{"Base", "m", "(I)V", "", "Base", "Base", ""},
		{"Other", "m", "()V", "", "Other", "Other", ""},
		// The nearer one says whether it is static.
		{"Base", "turn", "()V", "Base", "", "", ""},
		{"Leaf", "turn", "()V", "", "Mid", "Mid", ""},
		{"Base", "both", "()V", "", "Base", "Base", ""},
		{"Leaf", "both", "()V", "Mid", "", "", ""},
		// An abstract one: of a class, above one that has code, below one that has code, with code again.
		{"Base", "a", "()V", "", "", "Base", ""},
		{"Mid", "a", "()V", "", "", "Base", ""},
		{"Leaf", "a", "()V", "", "Leaf", "Leaf", ""},
		{"Mid", "h", "()V", "", "", "Mid", ""},
		{"Leaf", "h", "()V", "", "", "Mid", ""},
		{"Base", "h", "()V", "", "Base", "Base", ""},
		// One of an interface: named by the interface, and by classes that have it.
		{"Zed", "z", "()V", "", "", "", "Zed"},
		{"Near", "far", "()I", "", "", "", "Far"},
		{"Near", "k", "()V", "", "", "", "Near"},
		{"Task", "run", "()V", "", "", "", "Task"},
		{"Mid", "z", "()V", "", "", "Zed", ""},
		{"Base", "k", "()V", "", "", "Far", ""},
		{"Leaf", "z", "()V", "", "Leaf", "Leaf", ""},
		{"Leaf", "far", "()I", "", "Leaf", "Leaf", ""},
		{"Leaf", "up", "()V", "", "Base", "Base", ""},
		{"Near", "up", "()V", "", "", "", "Near"},
		// `<init>`: of the class itself, of its sub, of an interface.
		{"Base", "<init>", "()V", "", "Base", "Base", ""},
		{"Base", "<init>", "(I)V", "", "Base", "Base", ""},
		{"Mid", "<init>", "()V", "", "", "Base", ""},
		{"Leaf", "<init>", "()V", "", "Leaf", "Leaf", ""},
		{"Leaf", "<init>", "(I)V", "", "", "Base", ""},
		{"Other", "<init>", "()V", "", "", "Object", ""},
		{"Near", "<init>", "()V", "", "", "", "Object"},
		{"Object", "<init>", "()V", "", "Object", "Object", ""},
		{"Throwable", "<init>", "()V", "", "Throwable", "Throwable", ""},
		{"MemEx", "<init>", "()V", "", "MemEx", "MemEx", ""},
		{"Task", "<init>", "()V", "", "", "", "Object"},
		{"Sys", "<init>", "()V", "", "", "Object", ""},
		// `<clinit>`, which is static.
		{"Mid", "<clinit>", "()V", "Mid", "", "", ""},
		{"Zed", "<clinit>", "()V", "Zed", "", "", ""},
		{"Base", "<clinit>", "()V", "Far", "", "", ""},
		// None.
		{"Leaf", "m", "()I", "", "", "", ""},
		{"Leaf", "M", "()V", "", "", "", ""},
		{"Base", "late", "()V", "", "", "", ""},
		{"Zed", "far", "()I", "", "", "", ""},
		{"Object", "m", "()V", "", "", "", ""},
		{"Leaf", "pick", "()I", "", "", "", ""},
		{"Sys", "pick", "()V", "", "", "", ""},
		{"Task", "run", "()I", "", "", "", ""},
		{"Leaf", "", "", "", "", "", ""},
	} {
		x.is(t, p, l)
	}
}

// P8.2: names that are none, at each place of a call.
func TestCallStrangers(t *testing.T) {
	l := methodSample()
	p := linked(t, l...)
	for _, name := range strangers() {
		byEach{class: name, name: "m", desc: "()V"}.is(t, p, l)
		byEach{class: "Leaf", name: "m", desc: name}.is(t, p, l)
		if name != "<init>" {
			byEach{class: "Leaf", name: name, desc: "()V"}.is(t, p, l)
		}
	}
}

// P8.2: what is no call tells ErrLink, whatever it names.
func TestCallOtherOps(t *testing.T) {
	l := methodSample()
	p := linked(t, l...)
	for _, op := range otherOps(calls()...) {
		for _, x := range []methodRow{
			{"Leaf", "m", "()V", ""}, {"Base", "st", "()V", ""}, {"Near", "near", "()V", ""}, {"Sys", "pick", "()I", ""}, {"Object", "<init>", "()V", ""}, {"None", "m", "()V", ""}, {"", "", "", ""},
		} {
			x.callIs(t, op, p, l)
		}
	}
}

// P8.2: fields that a call does not have say nothing.
func TestCallLooksAtNamesAlone(t *testing.T) {
	p := linked(t, methodSample()...)
	for _, a := range []int{-1 << 31, -1, 1, 1 << 31} {
		x := named(api.Callvirtual, "Leaf", "m", "()V")
		x.A, x.B = a, -a
		if owner, m, e := Call(p, x); owner != "Mid" || m.Name != "m" || e != api.OK {
			t.Errorf("Call with A %d: %q, %q, %d", a, owner, m.Name, e)
		}
	}
}
