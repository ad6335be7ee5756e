package link

import (
	"reflect"
	"slices"
	"testing"

	"lantern/api"
)

// view is all that a program tells of one name.
type view struct {
	Class                    api.Class
	There, Concrete          bool
	Supers, Interfaces, Subs []string
}

// seen is all that a program tells.
func seen(p *Prog) map[string]view {
	out := map[string]view{}
	for _, name := range append(p.Names(), "", "None") {
		c, there := p.Class(name)
		out[name] = view{c, there, p.Concrete(name), p.Supers(name), p.Interfaces(name), p.Subs(name)}
	}
	return out
}

// sample has a class and an interface of each kind.
func sample() []api.Class {
	run := code("run", "()V")
	return []api.Class{
		face("J", implements("I")),
		class("C", "B", implements("Task"), run),
		face("I", field("x", "I", true)),
		class("B", "Object", abstract, implements("J")),
		class("D", "C", implements("K")),
		face("K", implements("J", "L")),
		face("L"),
		class("E", "NullEx", implements("L")),
		face("U", implements("Task")),
		class("c", "E", code("f", "()V"), field("y", "[LA;", false)),
	}
}

func TestNames(t *testing.T) {
	want := []string{"ArithEx", "BoundsEx", "CastEx", "DepthEx", "InitEx", "MemEx", "NullEx", "Object", "StoreEx", "Sys", "Task", "Throwable"}
	if got := linked(t).Names(); !slices.Equal(got, want) {
		t.Errorf("Names of no classes: %q, want %q", got, want)
	}
	want = []string{"ArithEx", "B", "BoundsEx", "C", "CastEx", "D", "DepthEx", "E", "I", "InitEx", "J", "K", "L", "MemEx", "NullEx", "Object", "StoreEx", "Sys", "Task", "Throwable", "U", "c"}
	if got := linked(t, sample()...).Names(); !slices.Equal(got, want) {
		t.Errorf("Names: %q, want %q", got, want)
	}
	l := []api.Class{class("a", "Object"), class("_", "Object"), class("Z", "Object"), class("a_", "Object"), class("a0", "Object"), class("aZ", "Object"), class("aa", "Object")}
	want = []string{"Z", "_", "a", "a0", "aZ", "a_", "aa"}
	got := slices.DeleteFunc(linked(t, l...).Names(), func(s string) bool {
		return slices.ContainsFunc(given(), func(c api.Class) bool { return c.Name == s })
	})
	if !slices.Equal(got, want) {
		t.Errorf("Names, by bytes: %q, want %q", got, want)
	}
	if got := linked(t, row(api.MaxClasses, "Object")...).Names(); len(got) != api.MaxClasses+12 {
		t.Errorf("Names of MaxClasses: %d of them", len(got))
	}
}

func TestClass(t *testing.T) {
	l := append(sample(), roomy("R"))
	p := linked(t, l...)
	for _, want := range append(l, given()...) {
		if got, ok := p.Class(want.Name); !ok || !reflect.DeepEqual(got, want) {
			t.Errorf("Class(%q): %v\n got %+v\nwant %+v", want.Name, ok, got, want)
		}
	}
	for _, name := range []string{"", "None", "b", "BB", "Objec", "Object ", "LB;", "~", "\x00", "\xff"} {
		if got, ok := p.Class(name); ok || !reflect.DeepEqual(got, api.Class{}) {
			t.Errorf("Class(%q): %+v, %v; want none, false", name, got, ok)
		}
	}
}

// TestQueries: of each kind of name what is told of it.
func TestQueries(t *testing.T) {
	p := linked(t, sample()...)
	all := p.Names()
	throwables := []string{"ArithEx", "BoundsEx", "CastEx", "DepthEx", "E", "InitEx", "MemEx", "NullEx", "StoreEx", "Throwable", "c"}
	ex := func(name string, subs ...string) row5 {
		return row5{name, true, []string{name, "Throwable", "Object"}, nil, append(subs, name)}
	}
	for _, x := range []row5{
		{"Object", true, []string{"Object"}, nil, all},
		{"Throwable", true, []string{"Throwable", "Object"}, nil, throwables},
		{"NullEx", true, []string{"NullEx", "Throwable", "Object"}, nil, []string{"E", "NullEx", "c"}},
		ex("BoundsEx"), ex("StoreEx"), ex("CastEx"), ex("ArithEx"), ex("MemEx"), ex("DepthEx"), ex("InitEx"),
		{"Task", false, []string{"Task", "Object"}, []string{"Task"}, []string{"C", "D", "Task", "U"}},
		{"Sys", false, []string{"Sys", "Object"}, nil, []string{"Sys"}},
		{"B", false, []string{"B", "Object"}, []string{"I", "J"}, []string{"B", "C", "D"}},
		{"C", true, []string{"C", "B", "Object"}, []string{"I", "J", "Task"}, []string{"C", "D"}},
		{"D", true, []string{"D", "C", "B", "Object"}, []string{"I", "J", "K", "L", "Task"}, []string{"D"}},
		{"E", true, []string{"E", "NullEx", "Throwable", "Object"}, []string{"L"}, []string{"E", "c"}},
		{"c", true, []string{"c", "E", "NullEx", "Throwable", "Object"}, []string{"L"}, []string{"c"}},
		{"I", false, []string{"I", "Object"}, []string{"I"}, []string{"B", "C", "D", "I", "J", "K"}},
		{"J", false, []string{"J", "Object"}, []string{"I", "J"}, []string{"B", "C", "D", "J", "K"}},
		{"K", false, []string{"K", "Object"}, []string{"I", "J", "K", "L"}, []string{"D", "K"}},
		{"L", false, []string{"L", "Object"}, []string{"L"}, []string{"D", "E", "K", "L", "c"}},
		{"U", false, []string{"U", "Object"}, []string{"Task", "U"}, []string{"U"}},
		{"None", false, nil, nil, nil},
		{"b", false, nil, nil, nil},
		{"", false, nil, nil, nil},
		{"\xff", false, nil, nil, nil},
	} {
		x.is(t, p)
	}
}

// row5 is what is told of a name.
type row5 struct {
	name                     string
	concrete                 bool
	supers, interfaces, subs []string
}

func (x row5) is(t *testing.T, p *Prog) {
	t.Helper()
	if got := p.Concrete(x.name); got != x.concrete {
		t.Errorf("Concrete(%q): %v", x.name, got)
	}
	if got := p.Supers(x.name); !slices.Equal(got, x.supers) {
		t.Errorf("Supers(%q): %q, want %q", x.name, got, x.supers)
	}
	if got := p.Interfaces(x.name); !slices.Equal(got, x.interfaces) {
		t.Errorf("Interfaces(%q): %q, want %q", x.name, got, x.interfaces)
	}
	if got := p.Subs(x.name); !slices.Equal(got, x.subs) {
		t.Errorf("Subs(%q): %q, want %q", x.name, got, x.subs)
	}
}

func TestLongestRow(t *testing.T) {
	p := linked(t, row(api.MaxClasses, "InitEx")...)
	want := append(names(api.MaxClasses), "InitEx", "Throwable", "Object")
	if got := p.Supers("c0"); !slices.Equal(got, want) {
		t.Errorf("Supers of the longest row: %q, want %q", got, want)
	}
	if got := p.Subs("InitEx"); len(got) != api.MaxClasses+1 {
		t.Errorf("Subs of the longest row: %q", got)
	}
	p = linked(t, faceRow(api.MaxClasses, "Task")...)
	want = append(names(api.MaxClasses), "Task")
	slices.Sort(want)
	if got := p.Interfaces("c0"); !slices.Equal(got, want) {
		t.Errorf("Interfaces of the longest row: %q, want %q", got, want)
	}
	if got := p.Subs("Task"); !slices.Equal(got, want) {
		t.Errorf("Subs of the longest row: %q", got)
	}
}

func TestNoProgram(t *testing.T) {
	for what, p := range map[string]*Prog{"a nil Prog": nil, "a zero Prog": {}} {
		if got := p.Names(); len(got) != 0 {
			t.Errorf("%s: Names: %q", what, got)
		}
		for _, name := range []string{"Object", "Task", "Sys", "A", ""} {
			c, there := p.Class(name)
			if there || !reflect.DeepEqual(c, api.Class{}) {
				t.Errorf("%s: Class(%q): %+v, %v", what, name, c, there)
			}
			row5{name: name}.is(t, p)
		}
	}
}

// TestOrder: in each order in which five classes may come the program is the same.
func TestOrder(t *testing.T) {
	l := sample()[:5]
	l[4].Implements = nil
	want := seen(linked(t, l...))
	tried := 0
	turns(l, 0, func() {
		tried++
		if got := seen(linked(t, l...)); !reflect.DeepEqual(got, want) {
			t.Fatalf("order %d: another program", tried)
		}
		p, e, _ := Files(files(t, l...)...)
		if e != api.OK || !reflect.DeepEqual(p.Names(), linked(t, l...).Names()) {
			t.Fatalf("order %d: another program of files", tried)
		}
	})
	if tried != 120 {
		t.Errorf("%d orders", tried)
	}
}

// turns lays l in each order, from a place on.
func turns(l []api.Class, from int, then func()) {
	if from == len(l) {
		then()
		return
	}
	for i := from; i < len(l); i++ {
		l[from], l[i] = l[i], l[from]
		turns(l, from+1, then)
		l[from], l[i] = l[i], l[from]
	}
}
