package resolve

import (
	"testing"

	"lantern/api"
	"lantern/link"
)

func initializesIs(t *testing.T, p *link.Prog, x api.Instr, want string) {
	t.Helper()
	if got := Initializes(p, x); got != want {
		t.Errorf("Initializes of %d %.40q, %.40q, %.40q: %q, want %q", x.Op, x.Class, x.Name, x.Desc, got, want)
	}
}

// P8.3: of New its class, whichever of the program's it is.
func TestInitializesOfNew(t *testing.T) {
	p := linked(t, methodSample()...)
	for _, name := range p.Names() {
		initializesIs(t, p, named(api.New, name, "", ""), name)
		initializesIs(t, p, named(api.New, name, "m", "()V"), name)
	}
	for _, name := range strangers() {
		initializesIs(t, p, named(api.New, name, "", ""), "")
	}
}

// P8.3: of Getstatic and Putstatic the owner of the field.
func TestInitializesOfFields(t *testing.T) {
	p := linked(t, fieldSample()...)
	for _, x := range []fieldRow{
		// Its own, a super's, an interface's.
		{"Base", "s", "[LBase;", true, "Base"}, {"Leaf", "s", "[LBase;", true, "Base"}, {"Mid", "both", "I", true, "Mid"}, {"Leaf", "both", "I", true, "Mid"}, {"Leaf", "turn", "I", true, "Base"},
		{"Leaf", "k", "I", true, "Far"}, {"Near", "k", "I", true, "Near"}, {"Leaf", "z", "I", true, "Zed"}, {"Alone", "k", "I", true, "Zed"}, {"Mid", "near", "I", true, "Near"}, {"Leaf", "up", "I", true, "Base"},
		// One that is not static, and none.
		{"Base", "x", "I", false, ""}, {"Mid", "x", "C", false, ""}, {"Mid", "turn", "I", true, "Base"}, {"Base", "both", "I", false, ""},
		{"Leaf", "s", "I", true, ""}, {"Leaf", "q", "I", true, ""}, {"Zed", "far", "LObject;", true, ""}, {"Sys", "s", "I", true, ""}, {"Object", "s", "I", true, ""}, {"", "", "", true, ""},
	} {
		initializesIs(t, p, named(api.Getstatic, x.class, x.name, x.desc), x.owner)
		initializesIs(t, p, named(api.Putstatic, x.class, x.name, x.desc), x.owner)
		initializesIs(t, p, named(api.Getfield, x.class, x.name, x.desc), "")
		initializesIs(t, p, named(api.Putfield, x.class, x.name, x.desc), "")
	}
	for _, name := range strangers() {
		for _, op := range []int{api.Getstatic, api.Putstatic} {
			initializesIs(t, p, named(op, name, "k", "I"), "")
			initializesIs(t, p, named(op, "Leaf", name, "I"), "")
			initializesIs(t, p, named(op, "Leaf", "k", name), "")
		}
	}
}

// P8.3: of Callstatic the owner of the method, but Sys.
func TestInitializesOfCallstatic(t *testing.T) {
	p := linked(t, methodSample()...)
	for _, x := range []methodRow{
		// Its own, a super's.
		{"Base", "st", "()V", "Base"}, {"Leaf", "st", "()V", "Base"}, {"Mid", "both", "()V", "Mid"}, {"Leaf", "both", "()V", "Mid"}, {"Base", "turn", "()V", "Base"}, {"Other", "fit", "()V", "Other"},
		// Sys's.
		{"Sys", "pick", "()I", ""}, {"Sys", "echo", "(LObject;)LObject;", ""}, {"Sys", "fresh", "()LObject;", ""}, {"Sys", "call", "(LTask;)V", ""},
		// One that is not static, one that is abstract, none.
		{"Base", "m", "()V", ""}, {"Leaf", "turn", "()V", ""}, {"Base", "a", "()V", ""}, {"Near", "near", "()V", ""}, {"Object", "<init>", "()V", ""}, {"Sys", "<init>", "()V", ""},
		{"Base", "st", "()I", ""}, {"Base", "none", "()V", ""}, {"Object", "st", "()V", ""}, {"Zed", "st", "()V", ""}, {"", "", "", ""},
	} {
		initializesIs(t, p, named(api.Callstatic, x.class, x.name, x.desc), x.owner)
	}
	for _, name := range strangers() {
		initializesIs(t, p, named(api.Callstatic, name, "st", "()V"), "")
		initializesIs(t, p, named(api.Callstatic, "Leaf", name, "()V"), "")
		initializesIs(t, p, named(api.Callstatic, "Leaf", "st", name), "")
	}
}

// P8.3: of every other operation none, whatever it names.
func TestInitializesOfOtherOps(t *testing.T) {
	p, q := linked(t, methodSample()...), linked(t, fieldSample()...)
	for _, op := range otherOps(api.New, api.Getstatic, api.Putstatic, api.Callstatic) {
		for _, x := range [][3]string{{"Base", "st", "()V"}, {"Base", "m", "()V"}, {"Near", "near", "()V"}, {"Mid", "<clinit>", "()V"}, {"Leaf", "<init>", "()V"}, {"Sys", "pick", "()I"}, {"Base", "", ""}, {"", "", ""}} {
			initializesIs(t, p, named(op, x[0], x[1], x[2]), "")
		}
		for _, x := range [][3]string{{"Base", "s", "[LBase;"}, {"Near", "k", "I"}, {"Base", "x", "I"}} {
			initializesIs(t, q, named(op, x[0], x[1], x[2]), "")
		}
	}
}

// P8.4: of a nil program, and of one without a class, which no call makes, nothing is told.
func TestNilProgram(t *testing.T) {
	l := methodSample()
	names := []string{"Leaf", "Base", "Near", "Object", "Task", "Sys", "NullEx"}
	for _, p := range []*link.Prog{nil, new(link.Prog)} {
		for _, name := range append(names, strangers()...) {
			for _, x := range [][2]string{{"m", "()V"}, {"<init>", "()V"}, {"<clinit>", "()V"}, {"run", "()V"}, {"pick", "()I"}, {"x", "I"}, {"", ""}} {
				fieldRow{name, x[0], x[1], false, ""}.is(t, p)
				fieldRow{name, x[0], x[1], true, ""}.is(t, p)
				row := methodRow{name, x[0], x[1], ""}
				row.is(t, p, l)
				row.dispatchIs(t, p, l)
				for _, op := range ops() {
					row.callIs(t, op, p, l)
					initializesIs(t, p, named(op, name, x[0], x[1]), "")
				}
			}
			if Clinit(p, name) {
				t.Errorf("%.40q has a <clinit>", name)
			}
		}
	}
}
