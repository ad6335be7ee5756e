package resolve

import (
	"strings"
	"testing"

	"lantern/api"
	"lantern/link"
)

// dispatchIs asks for the owner that Dispatch tells; an empty one: false.
func (x methodRow) dispatchIs(t *testing.T, p *link.Prog, l []api.Class) {
	t.Helper()
	owner, m, ok := Dispatch(p, x.class, x.name, x.desc)
	x.found(t, "Dispatch", l, owner, m)
	if ok != (x.owner != "") {
		t.Errorf("Dispatch(%.40q, %.40q, %.40q): %v", x.class, x.name, x.desc, ok)
	}
}

// P8.3: Dispatch.
func TestDispatch(t *testing.T) {
	l := methodSample()
	p := linked(t, l...)
	for _, x := range []methodRow{
		// Its own, a super's, the nearer one.
		{"Leaf", "m", "(C)V", "Leaf"}, {"Leaf", "m", "()V", "Mid"}, {"Mid", "m", "()V", "Mid"}, {"Base", "m", "()V", "Base"}, {"Leaf", "m", "(I)V", "Base"}, {"Other", "m", "()V", "Other"},
		{"Leaf", "k", "()V", "Leaf"}, {"Leaf", "z", "()V", "Leaf"}, {"Leaf", "far", "()I", "Leaf"}, {"Leaf", "up", "()V", "Base"},
		// Past an abstract one to a super's, and where no super has another.
		{"Leaf", "h", "()V", "Base"}, {"Mid", "h", "()V", "Base"}, {"Base", "h", "()V", "Base"},
		{"Mid", "a", "()V", ""}, {"Base", "a", "()V", ""}, {"Leaf", "a", "()V", "Leaf"}, {"Mid", "late", "()V", ""},
		// Past a static one to a super's, and where no super has another.
		{"Leaf", "both", "()V", "Base"}, {"Mid", "both", "()V", "Base"}, {"Leaf", "turn", "()V", "Mid"}, {"Base", "turn", "()V", ""}, {"Leaf", "st", "()V", ""}, {"Other", "fit", "()V", ""},
		// What stands in interfaces alone is none.
		{"Mid", "z", "()V", ""}, {"Mid", "near", "()V", ""}, {"Base", "k", "()V", ""}, {"Base", "<clinit>", "()V", ""}, {"Leaf", "<clinit>", "()V", ""},
		// On an interface, whose only super is Object.
		{"Zed", "z", "()V", ""}, {"Near", "near", "()V", ""}, {"Near", "far", "()I", ""}, {"Zed", "<clinit>", "()V", ""}, {"Near", "<init>", "()V", "Object"}, {"Task", "<init>", "()V", "Object"}, {"Task", "run", "()V", ""},
		// Of the given classes.
		{"Sys", "pick", "()I", ""}, {"Sys", "echo", "(LObject;)LObject;", ""}, {"Sys", "fresh", "()LObject;", ""}, {"Sys", "call", "(LTask;)V", ""}, {"Sys", "<init>", "()V", "Object"},
		{"Leaf", "<init>", "()V", "Leaf"}, {"Mid", "<init>", "()V", "Base"}, {"Leaf", "<init>", "(I)V", "Base"}, {"Other", "<init>", "()V", "Object"},
		// None.
		{"Leaf", "m", "()I", ""}, {"Leaf", "M", "()V", ""}, {"Leaf", "", "", ""}, {"Object", "m", "()V", ""}, {"Base", "late", "()V", ""}, {"Object", "run", "()V", ""},
	} {
		x.dispatchIs(t, p, l)
	}
	for _, name := range strings.Fields("Object Throwable NullEx BoundsEx StoreEx CastEx ArithEx MemEx DepthEx InitEx") {
		methodRow{name, "<init>", "()V", name}.dispatchIs(t, p, l)
		methodRow{name, "<init>", "(I)V", ""}.dispatchIs(t, p, l)
		methodRow{name, "run", "()V", ""}.dispatchIs(t, p, l)
	}
}

// P8.3: Task's run on a class that has one, on its sub, and on one that has it open.
func TestDispatchRun(t *testing.T) {
	l := []api.Class{
		class("Work", "Object", implements("Task"), code("run", "()V")), class("Sub", "Work"), class("More", "Work", marked("run", "()V", false, 1)),
		class("Open", "Object", abstract, implements("Task")), class("Shut", "Work", abstract, open("run", "()V"), static("run", "(I)V")), class("Last", "Shut"),
	}
	p := linked(t, l...)
	for _, x := range []methodRow{{"Work", "run", "()V", "Work"}, {"Sub", "run", "()V", "Work"}, {"More", "run", "()V", "More"}, {"Open", "run", "()V", ""}, {"Shut", "run", "()V", "Work"}, {"Last", "run", "()V", "Work"}, {"Last", "run", "(I)V", ""}} {
		x.dispatchIs(t, p, l)
	}
}

// P8.3: a class that is none, and the longest row.
func TestDispatchEdges(t *testing.T) {
	l := methodSample()
	p := linked(t, l...)
	for _, name := range strangers() {
		methodRow{name, "m", "()V", ""}.dispatchIs(t, p, l)
		methodRow{name, "<init>", "()V", ""}.dispatchIs(t, p, l)
		methodRow{"Leaf", "m", name, ""}.dispatchIs(t, p, l)
		if name != "<init>" {
			methodRow{"Leaf", name, "()V", ""}.dispatchIs(t, p, l)
		}
	}
	l = longRow(class("end", "InitEx", code("m", "()V")))
	p = linked(t, l...)
	methodRow{"c0", "m", "()V", "end"}.dispatchIs(t, p, l)
	methodRow{"c0", "<init>", "()V", "InitEx"}.dispatchIs(t, p, l)
}

// P8.3: Native.
func TestNative(t *testing.T) {
	if !Native("Sys") {
		t.Error("Sys is native")
	}
	p := linked(t, methodSample()...)
	for _, name := range append(p.Names(), strangers()...) {
		if name != "Sys" && Native(name) {
			t.Errorf("%.40q is not native", name)
		}
	}
	for _, name := range []string{"sys", "SYS", "Sy", "Syss", " Sys", "Sys ", "Sys\x00", "LSys;", "Sys.pick()I"} {
		if Native(name) {
			t.Errorf("%q is not native", name)
		}
	}
}

// P8.3: Clinit, of a class's own alone.
func TestClinit(t *testing.T) {
	p := linked(t,
		face("Zed", static("<clinit>", "()V")), face("Above", implements("Zed")),
		class("With", "Object", static("a", "()V"), static("<clinit>", "()V")), class("Sub", "With"), class("Again", "Sub", static("<clinit>", "()V")),
		class("Has", "Object", implements("Zed")), class("Else", "Object", static("clinit", "()V"), code("<init>", "()V"), static("_clinit_", "()V"), shared("clinit", "I")),
		class("Open", "Object", abstract, static("<clinit>", "()V"), open("a", "()V")),
	)
	has := map[string]int{"Zed": 1, "With": 1, "Again": 1, "Open": 1}
	for _, name := range append(p.Names(), strangers()...) {
		if got := Clinit(p, name); got != (has[name] == 1) {
			t.Errorf("Clinit(%.40q): %v", name, got)
		}
	}
}
