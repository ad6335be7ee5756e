package subtype

import (
	"strings"
	"testing"
)

// P7.2: the document's words on pairs, written out.
func TestType(t *testing.T) {
	p := linked(t, sample()...)
	for _, c := range []struct {
		sub, super string
		want       bool
	}{
		// The primitive types.
		{"I", "I", true}, {"C", "C", true}, {"I", "C", false}, {"C", "I", false},
		{"I", "LObject;", false}, {"C", "LObject;", false}, {"LObject;", "I", false}, {"LObject;", "C", false},
		{"I", "LI;", false}, {"LI;", "I", false}, {"C", "LC;", false}, {"LC;", "C", false}, {"I", "[I", false}, {"[I", "I", false},
		// Classes.
		{"LLeaf;", "LLeaf;", true}, {"LLeaf;", "LMid;", true}, {"LLeaf;", "LBase;", true}, {"LLeaf;", "LObject;", true}, {"LMid;", "LLeaf;", false}, {"LObject;", "LLeaf;", false},
		{"LLeaf;", "LF;", true}, {"LLeaf;", "LG;", false}, {"LMany;", "LF;", true}, {"LF;", "LObject;", true}, {"LObject;", "LF;", false}, {"LF;", "LMid;", false}, {"LG;", "LF;", true}, {"LF;", "LG;", false},
		{"LMid;", "LSide;", false}, {"LSys;", "LObject;", true}, {"LSys;", "LTask;", false}, {"LTask;", "LObject;", true}, {"LWork;", "LTask;", true}, {"LTask;", "LTask;", true}, {"LSys;", "LSys;", true},
		// An array beside what is none.
		{"[I", "LObject;", true}, {"[C", "LObject;", true}, {"[LLeaf;", "LObject;", true}, {"[LF;", "LObject;", true}, {"[[[[I", "LObject;", true}, {"[[[[LLeaf;", "LObject;", true}, {"[LObject;", "LObject;", true},
		{"LObject;", "[LObject;", false}, {"LObject;", "[I", false}, {"[LLeaf;", "LLeaf;", false}, {"LLeaf;", "[LLeaf;", false}, {"[LLeaf;", "LF;", false}, {"[LWork;", "LTask;", false}, {"[I", "LLone;", false}, {"[I", "LI;", false}, {"[C", "LC;", false}, {"[LSys;", "LSys;", false},
		// Arrays of primitives.
		{"[I", "[I", true}, {"[C", "[C", true}, {"[I", "[C", false}, {"[C", "[I", false}, {"[I", "[LObject;", false}, {"[C", "[LObject;", false}, {"[LObject;", "[I", false}, {"[I", "[LI;", false}, {"[LI;", "[I", false}, {"[C", "[LC;", false},
		{"[[I", "[[I", true}, {"[[I", "[[C", false}, {"[[I", "[I", false}, {"[I", "[[I", false}, {"[[I", "[LObject;", true}, {"[[I", "[[LObject;", false}, {"[[[I", "[[LObject;", true}, {"[[[I", "[LObject;", true}, {"[[[I", "[[[LObject;", false},
		{"[[[[I", "[[[[I", true}, {"[[[[I", "[[[[C", false}, {"[[[[I", "[[[LObject;", true}, {"[[[[I", "[[[[LObject;", false}, {"[[[[I", "[[[I", false}, {"[[[[C", "[LObject;", true},
		// Arrays of classes and of interfaces.
		{"[LLeaf;", "[LLeaf;", true}, {"[LLeaf;", "[LMid;", true}, {"[LLeaf;", "[LF;", true}, {"[LLeaf;", "[LObject;", true}, {"[LF;", "[LObject;", true}, {"[LG;", "[LF;", true}, {"[LF;", "[LG;", false}, {"[LMid;", "[LLeaf;", false}, {"[LObject;", "[LLeaf;", false}, {"[LObject;", "[LF;", false},
		{"[[LLeaf;", "[[LMid;", true}, {"[[LLeaf;", "[[LF;", true}, {"[[LLeaf;", "[LMid;", false}, {"[[LLeaf;", "[LF;", false}, {"[[LLeaf;", "[LObject;", true}, {"[LLeaf;", "[[LLeaf;", false}, {"[LObject;", "[[LObject;", false}, {"[[LObject;", "[LObject;", true},
		{"[[[[LLeaf;", "[[[[LMid;", true}, {"[[[[LLeaf;", "[[[[LF;", true}, {"[[[[LLeaf;", "[[[[LObject;", true}, {"[[[[LLeaf;", "[[[LObject;", true}, {"[[[[LLeaf;", "[[[LLeaf;", false}, {"[[[[LMid;", "[[[[LLeaf;", false}, {"[[[[LObject;", "[[[[LObject;", true}, {"[[[LLeaf;", "[[[[LObject;", false},
	} {
		if got := Type(p, c.sub, c.super); got != c.want {
			t.Errorf("Type(%q, %q) is %v", c.sub, c.super, got)
		}
	}
}

// P7.2: of arrays of classes, as deep as they may be, it is as of the classes.
func TestTypeAsClass(t *testing.T) {
	p := linked(t, sample()...)
	for _, a := range p.Names() {
		for _, b := range p.Names() {
			want := Class(p, a, b)
			for dims := range 5 {
				sub, super := strings.Repeat("[", dims)+"L"+a+";", strings.Repeat("[", dims)+"L"+b+";"
				if got := Type(p, sub, super); got != want {
					t.Errorf("Type(%q, %q) is %v, of the classes %v", sub, super, got, want)
				}
			}
		}
	}
}

// P7.2: what is not Known is one of nothing, and nothing is one of it: not of Object, nor of itself.
func TestTypeStrangers(t *testing.T) {
	p := linked(t, sample()...)
	for _, q := range strangeTypes() {
		for _, s := range []string{q, "I", "C", "LObject;", "LLeaf;", "LF;", "[I", "[LObject;", "[[LLeaf;", "[[[[LObject;", "LQ;", "[LQ;", "V", ""} {
			if Type(p, q, s) || Type(p, s, q) {
				t.Errorf("%.60q is not known, but %v above %q, %v below", q, Type(p, s, q), s, Type(p, q, s))
			}
		}
	}
}
