package subtype

import (
	"testing"

	"lantern/link"
)

// P7.3: Common, on pairs written out, both ways round.
func TestCommon(t *testing.T) {
	p := linked(t, sample()...)
	for _, c := range []struct{ a, b, want string }{
		// Equal names.
		{"Leaf", "Leaf", "Leaf"}, {"Object", "Object", "Object"}, {"F", "F", "F"}, {"K", "K", "K"}, {"Base", "Base", "Base"}, {"Task", "Task", "Task"}, {"Sys", "Sys", "Sys"},
		// An interface with another, one above the other too.
		{"F", "H", "Object"}, {"G", "F", "Object"}, {"K", "F", "Object"}, {"K", "H", "Object"}, {"F", "Task", "Object"}, {"F", "C", "Object"},
		// An interface with a class, one of its own too.
		{"Mid", "F", "Object"}, {"Leaf", "F", "Object"}, {"Leaf", "H", "Object"}, {"Lone", "F", "Object"}, {"Object", "F", "Object"}, {"Many", "K", "Object"}, {"Work", "Task", "Object"}, {"Sys", "Task", "Object"},
		// A class with its supers.
		{"Leaf", "Mid", "Mid"}, {"Leaf", "Base", "Base"}, {"Leaf", "Object", "Object"}, {"Mid", "Base", "Base"}, {"Base", "Object", "Object"}, {"Fault", "Throwable", "Throwable"}, {"Fault", "NullEx", "NullEx"}, {"Sys", "Object", "Object"},
		// Classes side by side, with an interface in common or not.
		{"Mid", "Side", "Base"}, {"Leaf", "SideLeaf", "Base"}, {"Leaf", "Side", "Base"}, {"Mid", "SideLeaf", "Base"}, {"Leaf", "Many", "Object"}, {"Leaf", "Lone", "Object"}, {"Fault", "MemEx", "Throwable"}, {"NullEx", "CastEx", "Throwable"}, {"Fault", "Lone", "Object"}, {"Sys", "Lone", "Object"}, {"Sys", "MemEx", "Object"}, {"I", "Lone", "Object"},
	} {
		if got, turned := Common(p, c.a, c.b), Common(p, c.b, c.a); got != c.want || turned != c.want {
			t.Errorf("Common of %q and %q is %q, %q the other way round, want %q", c.a, c.b, got, turned, c.want)
		}
	}
}

// P7.3: one that is no class, beside each class, an interface too, and beside itself.
func TestCommonStrangers(t *testing.T) {
	p := linked(t, sample()...)
	for _, q := range strangers() {
		for _, name := range append(p.Names(), "", "Q", q) {
			if a, b := Common(p, q, name), Common(p, name, q); a != "" || b != "" {
				t.Errorf("Common of %.40q, which is none, and %.40q: %q, %q", q, name, a, b)
			}
		}
	}
}

// P7.3: Merge, on pairs written out, both ways round.
func TestMerge(t *testing.T) {
	p := linked(t, sample()...)
	for _, c := range []struct{ a, b, want string }{
		// Classes.
		{"LLeaf;", "LLeaf;", "LLeaf;"}, {"LF;", "LF;", "LF;"}, {"LObject;", "LObject;", "LObject;"}, {"LSys;", "LSys;", "LSys;"}, {"LLeaf;", "LMid;", "LMid;"}, {"LLeaf;", "LSideLeaf;", "LBase;"}, {"LLeaf;", "LLone;", "LObject;"}, {"LFault;", "LMemEx;", "LThrowable;"},
		{"LMid;", "LF;", "LObject;"}, {"LG;", "LF;", "LObject;"}, {"LWork;", "LTask;", "LObject;"}, {"LI;", "LC;", "LObject;"},
		// An array beside a class.
		{"[I", "LObject;", "LObject;"}, {"[LLeaf;", "LObject;", "LObject;"}, {"[LLeaf;", "LLeaf;", "LObject;"}, {"[LLeaf;", "LF;", "LObject;"}, {"[[[[I", "LLone;", "LObject;"}, {"[I", "LI;", "LObject;"}, {"[C", "LC;", "LObject;"}, {"[[[[LLeaf;", "LLeaf;", "LObject;"},
		// Arrays of primitives.
		{"[I", "[I", "[I"}, {"[C", "[C", "[C"}, {"[I", "[C", "LObject;"}, {"[I", "[LObject;", "LObject;"}, {"[I", "[LLeaf;", "LObject;"}, {"[I", "[LI;", "LObject;"}, {"[I", "[[I", "LObject;"}, {"[C", "[[LLeaf;", "LObject;"}, {"[I", "[[[[I", "LObject;"},
		{"[[I", "[[I", "[[I"}, {"[[I", "[[C", "[LObject;"}, {"[[I", "[LObject;", "[LObject;"}, {"[[I", "[LLeaf;", "[LObject;"}, {"[[I", "[[LObject;", "[LObject;"}, {"[[I", "[[[I", "[LObject;"}, {"[[[I", "[[[C", "[[LObject;"}, {"[[[I", "[[LLeaf;", "[[LObject;"}, {"[[[I", "[LF;", "[LObject;"},
		{"[[[[I", "[[[[I", "[[[[I"}, {"[[[[C", "[[[[C", "[[[[C"}, {"[[[[I", "[[[[C", "[[[LObject;"}, {"[[[[I", "[[[[LObject;", "[[[LObject;"}, {"[[[[I", "[[[I", "[[LObject;"},
		// Arrays of classes.
		{"[LLeaf;", "[LLeaf;", "[LLeaf;"}, {"[LLeaf;", "[LMid;", "[LMid;"}, {"[LLeaf;", "[LSideLeaf;", "[LBase;"}, {"[LLeaf;", "[LLone;", "[LObject;"}, {"[LLeaf;", "[LF;", "[LObject;"}, {"[LF;", "[LF;", "[LF;"}, {"[LF;", "[LG;", "[LObject;"}, {"[LLeaf;", "[LObject;", "[LObject;"},
		{"[[LLeaf;", "[[LSide;", "[[LBase;"}, {"[[LLeaf;", "[LLeaf;", "[LObject;"}, {"[[LLeaf;", "[LObject;", "[LObject;"}, {"[[LLeaf;", "[LF;", "[LObject;"}, {"[[[LLeaf;", "[LLeaf;", "[LObject;"}, {"[[[LLeaf;", "[[LLeaf;", "[[LObject;"},
		{"[[[[LLeaf;", "[[[[LLeaf;", "[[[[LLeaf;"}, {"[[[[LLeaf;", "[[[[LSide;", "[[[[LBase;"}, {"[[[[LLeaf;", "[[[[LF;", "[[[[LObject;"}, {"[[[[LLeaf;", "[[[LLeaf;", "[[[LObject;"}, {"[[[[LLeaf;", "[LLeaf;", "[LObject;"}, {"[[[[LObject;", "[[[[LObject;", "[[[[LObject;"},
	} {
		if got, turned := Merge(p, c.a, c.b), Merge(p, c.b, c.a); got != c.want || turned != c.want {
			t.Errorf("Merge of %q and %q is %q, %q the other way round, want %q", c.a, c.b, got, turned, c.want)
		}
	}
}

// P7.3: primitive types, beside each other, beside themselves, and beside references.
func TestMergePrimitives(t *testing.T) {
	p := linked(t, sample()...)
	for _, s := range knownTypes(p) {
		for _, prim := range []string{"I", "C"} {
			if a, b := Merge(p, s, prim), Merge(p, prim, s); a != "" || b != "" {
				t.Errorf("Merge of %q and %q: %q, %q", s, prim, a, b)
			}
		}
	}
}

// P7.3: what is not Known, beside what is, and beside itself.
func TestMergeStrangers(t *testing.T) {
	p := linked(t, sample()...)
	for _, q := range strangeTypes() {
		for _, s := range []string{q, "I", "LObject;", "LLeaf;", "LF;", "[I", "[LObject;", "[[LLeaf;", "[[[[LObject;", "LQ;", "[LQ;", "V", ""} {
			if a, b := Merge(p, q, s), Merge(p, s, q); a != "" || b != "" {
				t.Errorf("Merge of %.60q, which is not known, and %.60q: %q, %q", q, s, a, b)
			}
		}
	}
}

// P7.4: a nil program knows nothing; one without a class, which no call makes, has the primitive types alone.
func TestNilProgram(t *testing.T) {
	full := linked(t, sample()...)
	names := append(full.Names(), strangers()...)
	types := append([]string{"I", "C", "[I", "[[[[C", "LObject;", "[LObject;", "LLeaf;", "LF;", "LQ;"}, strangeTypes()...)
	for _, p := range []*link.Prog{nil, new(link.Prog)} {
		for _, a := range names {
			for _, b := range []string{a, "Object", "Leaf", "F", ""} {
				if Class(p, a, b) || Class(p, b, a) || Common(p, a, b) != "" || Common(p, b, a) != "" {
					t.Errorf("%.40q and %.40q: something is told of them", a, b)
				}
			}
		}
	}
	for _, a := range types {
		if Known(nil, a) {
			t.Errorf("%.40q is known", a)
		}
		for _, b := range []string{a, "I", "LObject;", "[I", "[LObject;", ""} {
			if Type(nil, a, b) || Type(nil, b, a) || Merge(nil, a, b) != "" || Merge(nil, b, a) != "" {
				t.Errorf("%.40q and %.40q: something is told of them", a, b)
			}
		}
	}
}
