package vtype

import (
	"testing"
)

// P11.2: Merge, on pairs written out, both ways round.
func TestMerge(t *testing.T) {
	p := linked(t, sample()...)
	for _, c := range []struct{ a, b, want string }{
		// Equal ones.
		{"T", "T", "T"}, {"I", "I", "I"}, {"C", "C", "C"}, {"N", "N", "N"}, {"LLeaf;", "LLeaf;", "LLeaf;"}, {"LF;", "LF;", "LF;"}, {"LObject;", "LObject;", "LObject;"}, {"[I", "[I", "[I"}, {"[[[[LLeaf;", "[[[[LLeaf;", "[[[[LLeaf;"}, {"U1:LLeaf;", "U1:LLeaf;", "U1:LLeaf;"}, {"U0:LF;", "U0:LF;", "U0:LF;"},
		// T beside each kind.
		{"T", "I", "T"}, {"T", "C", "T"}, {"T", "N", "T"}, {"T", "LLeaf;", "T"}, {"T", "LT;", "T"}, {"T", "LObject;", "T"}, {"T", "[I", "T"}, {"T", "[LLeaf;", "T"}, {"T", "U1:LLeaf;", "T"},
		// Values that are no references, beside each other kind.
		{"I", "C", "T"}, {"I", "N", "T"}, {"C", "N", "T"}, {"I", "LLeaf;", "T"}, {"I", "LObject;", "T"}, {"I", "LI;", "T"}, {"I", "[I", "T"}, {"C", "LObject;", "T"}, {"C", "LC;", "T"}, {"C", "[C", "T"}, {"I", "U1:LI;", "T"}, {"C", "U1:LLeaf;", "T"},
		// Null beside references, and beside made ones.
		{"N", "LLeaf;", "LLeaf;"}, {"N", "LF;", "LF;"}, {"N", "LN;", "LN;"}, {"N", "LObject;", "LObject;"}, {"N", "[I", "[I"}, {"N", "[[C", "[[C"}, {"N", "[LLeaf;", "[LLeaf;"}, {"N", "[[[[LF;", "[[[[LF;"}, {"N", "U1:LLeaf;", "T"}, {"N", "U0:LN;", "T"},
		// References: 7's Merge.
		{"LLeaf;", "LMid;", "LMid;"}, {"LLeaf;", "LSide;", "LBase;"}, {"LLeaf;", "LLone;", "LObject;"}, {"LMid;", "LF;", "LObject;"}, {"LG;", "LF;", "LObject;"}, {"LMemEx;", "LNullEx;", "LThrowable;"}, {"LSys;", "LTask;", "LObject;"},
		{"[I", "[C", "LObject;"}, {"[I", "LLeaf;", "LObject;"}, {"[I", "[[I", "LObject;"}, {"[LLeaf;", "[LSide;", "[LBase;"}, {"[LLeaf;", "[I", "LObject;"}, {"[[LLeaf;", "[LMid;", "[LObject;"}, {"[[I", "[[C", "[LObject;"}, {"[[[[LLeaf;", "[[[[LMid;", "[[[[LMid;"}, {"[LLeaf;", "LLeaf;", "LObject;"},
		// Made ones, unlike in place, in class, in both, and beside what they will be.
		{"U1:LLeaf;", "U2:LLeaf;", "T"}, {"U1:LLeaf;", "U1:LMid;", "T"}, {"U1:LLeaf;", "U2:LMid;", "T"}, {"U1:LLeaf;", "U10:LLeaf;", "T"}, {"U1:LLeaf;", "LLeaf;", "T"}, {"U1:LLeaf;", "LMid;", "T"}, {"U1:LLeaf;", "LObject;", "T"}, {"U1:LLeaf;", "[LLeaf;", "T"}, {"U1:LU1;", "LU1;", "T"},
		// One that may not be, beside each kind.
		{"LQ;", "T", ""}, {"LQ;", "I", ""}, {"LQ;", "C", ""}, {"LQ;", "N", ""}, {"LQ;", "LLeaf;", ""}, {"LQ;", "[I", ""}, {"LQ;", "U1:LLeaf;", ""}, {"LQ;", "LQ;", ""}, {"U1:LQ;", "U1:LQ;", ""}, {"U1:LQ;", "T", ""}, {"U1:LQ;", "N", ""}, {"U01:LLeaf;", "U1:LLeaf;", ""}, {"U1:[LLeaf;", "T", ""}, {"V", "V", ""}, {"V", "T", ""}, {"", "", ""}, {"", "T", ""}, {"", "N", ""}, {"[LQ;", "N", ""}, {"[T", "T", ""},
	} {
		if got, turned := Merge(p, c.a, c.b), Merge(p, c.b, c.a); got != c.want || turned != c.want {
			t.Errorf("Merge of %q and %q is %q, %q the other way round, want %q", c.a, c.b, got, turned, c.want)
		}
	}
}

// P11.2: one that may not be, beside what may be, beside another, and beside itself.
func TestMergeStrangers(t *testing.T) {
	p := linked(t, sample()...)
	for _, q := range strangeTypes() {
		for _, s := range []string{q, "", "V", "LQ;", "T", "I", "C", "N", "LObject;", "LLeaf;", "[I", "[LObject;", "U1:LLeaf;", "U1:LQ;"} {
			if a, b := Merge(p, q, s), Merge(p, s, q); a != "" || b != "" {
				t.Errorf("Merge of %.60q, which may not be, and %.60q: %q, %q", q, s, a, b)
			}
		}
	}
}

// P11.4: the same the other way round, above both, and a type merged with itself is itself: of all types of the sample.
func TestMergeAboveBoth(t *testing.T) {
	p := linked(t, sample()...)
	l := typesOf(p)
	for i, a := range l {
		if got := Merge(p, a, a); got != a {
			t.Errorf("Merge of %q and itself is %q", a, got)
		}
		for _, b := range l[:i] {
			m := Merge(p, a, b)
			if m != Merge(p, b, a) {
				t.Errorf("Merge of %q and %q is %q, %q the other way round", a, b, m, Merge(p, b, a))
			}
			if !Fits(p, a, m) || !Fits(p, b, m) {
				t.Errorf("Merge of %q and %q is %q, and is not above both", a, b, m)
			}
		}
	}
}

// P11.2 and P11.4: where one fits the other, and no interface is in play, the other is their Merge.
func TestMergeOfFitting(t *testing.T) {
	p := linked(t, class("A", "Object"), class("B", "A"), class("D", "B"), class("E", "Object"))
	var l []string
	for _, s := range typesOf(p) {
		if !within("LTask; [LTask; [[LTask; [[[LTask; [[[[LTask;", s) {
			l = append(l, s)
		}
	}
	for _, a := range l {
		for _, b := range l {
			if got := Merge(p, a, b); Fits(p, a, b) && got != b {
				t.Errorf("%q fits %q, but their Merge is %q", a, b, got)
			}
		}
	}
}

// P11.2: of three, in whatever order: of a made one beside what is no such one, too.
func TestMergeOfThree(t *testing.T) {
	p := linked(t, sample()...)
	l := []string{"T", "I", "C", "N", "LLeaf;", "LMid;", "LSide;", "LLone;", "LF;", "LG;", "LObject;", "[I", "[C", "[[I", "[LLeaf;", "[LSide;", "[[LLeaf;", "U1:LLeaf;", "U2:LLeaf;", "U1:LMid;", "LQ;", ""}
	for _, a := range l {
		for _, b := range l {
			for _, c := range l {
				if x, y := Merge(p, Merge(p, a, b), c), Merge(p, a, Merge(p, b, c)); x != y {
					t.Errorf("Merge of %q, %q and %q: %q, %q", a, b, c, x, y)
				}
			}
		}
	}
}
