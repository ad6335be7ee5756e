package subtype

import (
	"slices"
	"strings"
	"testing"

	"lantern/api"
	"lantern/link"
)

// above is, of each class of the sample, all that it is one of, written out.
func above() map[string]string {
	return map[string]string{
		"Object":    "Object",
		"Throwable": "Object Throwable",
		"NullEx":    "NullEx Object Throwable",
		"BoundsEx":  "BoundsEx Object Throwable",
		"StoreEx":   "Object StoreEx Throwable",
		"CastEx":    "CastEx Object Throwable",
		"ArithEx":   "ArithEx Object Throwable",
		"MemEx":     "MemEx Object Throwable",
		"DepthEx":   "DepthEx Object Throwable",
		"InitEx":    "InitEx Object Throwable",
		"Task":      "Object Task",
		"Sys":       "Object Sys",
		"F":         "F Object",
		"G":         "F G Object",
		"H":         "H Object",
		"K":         "F G H K Object",
		"Base":      "Base Object",
		"Mid":       "Base F Mid Object",
		"Leaf":      "Base F H Leaf Mid Object",
		"Side":      "Base F G Object Side",
		"SideLeaf":  "Base F G Object Side SideLeaf",
		"Many":      "F G H K Many Object",
		"Lone":      "Lone Object",
		"Fault":     "Fault NullEx Object Throwable",
		"Work":      "Object Task Work",
		"I":         "I Object",
		"C":         "C Object",
	}
}

// P7.1: each class with each class: itself, its supers, its interfaces, those of its supers and of its interfaces.
func TestClass(t *testing.T) {
	p := linked(t, sample()...)
	rows := above()
	if len(rows) != len(p.Names()) {
		t.Fatalf("%d rows of %d classes", len(rows), len(p.Names()))
	}
	for _, sub := range p.Names() {
		for _, super := range p.Names() {
			want := slices.Contains(strings.Fields(rows[sub]), super)
			if got := Class(p, sub, super); got != want {
				t.Errorf("Class(%q, %q) is %v", sub, super, got)
			}
		}
	}
}

// P7.1: one that is no class, on either side and on both.
func TestClassStrangers(t *testing.T) {
	p := linked(t, sample()...)
	for _, q := range strangers() {
		for _, name := range append(p.Names(), q) {
			if Class(p, q, name) || Class(p, name, q) {
				t.Errorf("%.40q is no class, but %v above %q, %v below", q, Class(p, name, q), name, Class(p, q, name))
			}
		}
	}
}

// P7.1: the longest row of supers, and of interfaces.
func TestClassLongRows(t *testing.T) {
	for _, made := range []func(name, next string) api.Class{
		func(name, next string) api.Class { return class(name, next) },
		func(name, next string) api.Class {
			if next == "Object" {
				return faceClass(name)
			}
			return faceClass(name, next)
		},
	} {
		var l []api.Class
		next := "Object"
		for i := range api.MaxClasses {
			name := "c" + strings.Repeat("x", i%api.MaxName)
			l = append(l, made(name, next))
			next = name
		}
		p := linked(t, l...)
		for i := range l {
			for j := range l {
				if got := Class(p, l[i].Name, l[j].Name); got != (j <= i) {
					t.Errorf("class %d one of class %d: %v", i, j, got)
				}
			}
			if !Class(p, l[i].Name, "Object") || Class(p, "Object", l[i].Name) {
				t.Errorf("class %d and Object", i)
			}
		}
	}
}

// P7.1: Known, of all types of a program, and of others.
func TestKnown(t *testing.T) {
	p := linked(t, sample()...)
	for _, s := range knownTypes(p) {
		if !Known(p, s) {
			t.Errorf("%q is a type of the program", s)
		}
	}
	for _, s := range strangeTypes() {
		if Known(p, s) {
			t.Errorf("%.60q is no type of the program", s)
		}
	}
}

// P7.1: what is known hangs on the program.
func TestKnownElsewhere(t *testing.T) {
	bare, other := linked(t), linked(t, class("Q", "Object"))
	for _, s := range arraysOf("LQ;") {
		if Known(bare, s) || !Known(other, s) {
			t.Errorf("%q: %v without its class, %v with it", s, Known(bare, s), Known(other, s))
		}
	}
	if Known(other, "LLeaf;") || Class(other, "Leaf", "Leaf") || Class(bare, "Q", "Object") || !Class(other, "Q", "Object") {
		t.Errorf("classes of another program are told of")
	}
	for _, p := range []*link.Prog{bare, other} {
		for _, s := range append(arraysOf("I"), arraysOf("LSys;")...) {
			if !Known(p, s) {
				t.Errorf("%q is known everywhere", s)
			}
		}
	}
}
