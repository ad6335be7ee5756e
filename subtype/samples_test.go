package subtype

import (
	"slices"
	"strings"
	"testing"

	"lantern/api"
	"lantern/link"
)

func class(name, super string, faces ...string) api.Class {
	return api.Class{Name: name, Super: super, Implements: faces}
}

func abstract(name, super string, faces ...string) api.Class {
	c := class(name, super, faces...)
	c.Abstract = true
	return c
}

// faceClass is an interface.
func faceClass(name string, faces ...string) api.Class {
	c := abstract(name, "Object", faces...)
	c.Interface = true
	return c
}

func linked(t *testing.T, l ...api.Class) *link.Prog {
	t.Helper()
	p, e, name := link.Classes(l...)
	if e != api.OK {
		t.Fatalf("Classes: %d of %q", e, name)
	}
	return p
}

// sample has each kind of row:
//
//	interfaces: F; G above F; H; K of G and H (so of F too)
//	Base <- Mid (F) <- Leaf (H);  Base <- Side (G) <- SideLeaf;  Many (K);  Lone
//	Fault <- NullEx;  Work (Task);  one class and one interface are named as the primitive types are
func sample() []api.Class {
	return []api.Class{
		faceClass("F"), faceClass("G", "F"), faceClass("H"), faceClass("K", "G", "H"),
		abstract("Base", "Object"), class("Mid", "Base", "F"), class("Leaf", "Mid", "H"),
		abstract("Side", "Base", "G"), class("SideLeaf", "Side"), class("Many", "Object", "K"), class("Lone", "Object"),
		class("Fault", "NullEx"), abstract("Work", "Object", "Task"), class("I", "Object"), faceClass("C"),
	}
}

// strangers are no classes of the sample.
func strangers() []string {
	return []string{
		"", "Q", "object", "OBJECT", "Object ", " Object", "LObject;", "LLeaf;", "[Leaf", "[LLeaf;", "L", "Lea", "Leaf;", "Leaff", "leaf", "V", "[", ";", "9", "é", "\xff", "Obj\x00ect",
		"Mid.Base", "Base,Mid", strings.Repeat("x", api.MaxName), strings.Repeat("x", api.MaxName+1), strings.Repeat("x", 1<<16),
	}
}

// arraysOf is the type with 0 to MaxDims `[` ahead.
func arraysOf(end string) []string {
	var l []string
	for dims := range api.MaxDims + 1 {
		l = append(l, strings.Repeat("[", dims)+end)
	}
	return l
}

// knownTypes is all types of a program.
func knownTypes(p *link.Prog) []string {
	l := append(arraysOf("I"), arraysOf("C")...)
	for _, name := range p.Names() {
		l = append(l, arraysOf("L"+name+";")...)
	}
	return l
}

// strangeTypes are no types, or types whose class is none of the sample's.
func strangeTypes() []string {
	l := []string{
		"", "V", "A", "i", "c", "II", "IC", "I ", " I", "I;", "L", "L;", "LI", ";", "Object", "Leaf", "LObject", "Object;", "LObject;;", "LObject;I", "LObject; ", " LObject;", "lObject;", "Lobject;",
		"LMid;LBase;", "[", "[[", "[[[[", "[V", "[ I", "]I", "[]I", "I[", "[I[", "[Object", "[LObject", "[[[[[I", "[[[[[C", "[[[[[LObject;", "[[[[[[[[[LLeaf;", "(I)V", "()V", "\x00", "\xff", "é",
		strings.Repeat("[", 1<<16), strings.Repeat("[", 1<<16) + "I",
	}
	for _, s := range strangers() {
		l = append(l, arraysOf("L"+s+";")...)
	}
	return l
}

// refs is those of the types that are references.
func refs(l []string) []string {
	return slices.DeleteFunc(slices.Clone(l), func(t string) bool { return t == "I" || t == "C" })
}
