package vtype

import (
	"math"
	"strings"
	"testing"

	"lantern/api"
	"lantern/link"
)

func class(name, super string, faces ...string) api.Class {
	return api.Class{Name: name, Super: super, Abstract: true, Implements: faces}
}

// faceClass is an interface.
func faceClass(name string, faces ...string) api.Class {
	c := class(name, "Object", faces...)
	c.Interface = true
	return c
}

func linked(t *testing.T, l ...api.Class) *link.Prog {
	t.Helper()
	p, e, name := link.Classes(l...)
	if e != api.OK {
		t.Fatalf("Classes: %d of %q", e, name)
	}
	return p
}

// sample has each kind of row, and classes that are named as types are:
//
//	interfaces: F; G above F; T
//	Base <- Mid (F) <- Leaf;  Base <- Side (G);  Lone;  I, C, N, U1
func sample() []api.Class {
	return []api.Class{
		faceClass("F"), faceClass("G", "F"), faceClass("T"),
		class("Base", "Object"), class("Mid", "Base", "F"), class("Leaf", "Mid"), class("Side", "Base", "G"), class("Lone", "Object"),
		class("I", "Object"), class("C", "Object"), class("N", "Object"), class("U1", "Lone"),
	}
}

// arraysOf is the type with 1 to MaxDims `[` ahead.
func arraysOf(end string) []string {
	var l []string
	for dims := range api.MaxDims {
		l = append(l, strings.Repeat("[", dims+1)+end)
	}
	return l
}

// refsOf is all reference types of a program.
func refsOf(p *link.Prog) []string {
	l := append(arraysOf("I"), arraysOf("C")...)
	for _, name := range p.Names() {
		l = append(l, "L"+name+";")
		l = append(l, arraysOf("L"+name+";")...)
	}
	return l
}

// madesOf is, of some places, all made types of a program.
func madesOf(p *link.Prog) []string {
	var l []string
	for _, name := range p.Names() {
		for _, digits := range []string{"0", "1", "9", "10", "199", "9223372036854775807"} {
			l = append(l, "U"+digits+":L"+name+";")
		}
	}
	return l
}

// typesOf is the types that may be: all, but for the places of made ones.
func typesOf(p *link.Prog) []string {
	return append(append([]string{"T", "I", "C", "N"}, refsOf(p)...), madesOf(p)...)
}

// notMade are no made types, of any program. Each is one but for something.
func notMade() []string {
	return []string{
		"", "U", "U1", "U1:", ":", ":LLeaf;", "U:LLeaf;", "1:LLeaf;", "ULLeaf;", "U1LLeaf;", "U1;LLeaf;", "U1::LLeaf;", "U1:1:LLeaf;", "u1:LLeaf;", "UU1:LLeaf;", "T1:LLeaf;", "L1:LLeaf;", "N:LLeaf;", "[U1:LLeaf;",
		"U01:LLeaf;", "U00:LLeaf;", "U007:LLeaf;", "U-1:LLeaf;", "U-0:LLeaf;", "U+1:LLeaf;", "U+0:LLeaf;", "U--1:LLeaf;", "U 1:LLeaf;", "U1 :LLeaf;", " U1:LLeaf;", "U1: LLeaf;", "U1:LLeaf; ",
		"U0x1:LLeaf;", "U1_0:LLeaf;", "U1.0:LLeaf;", "U1e1:LLeaf;", "Ua:LLeaf;", "U1a:LLeaf;", "Ua1:LLeaf;", "U١:LLeaf;", "U1\x00:LLeaf;",
		"U9223372036854775808:LLeaf;", "U18446744073709551616:LLeaf;", "U18446744073709551617:LLeaf;", "U99999999999999999999999:LLeaf;", "U" + strings.Repeat("1", 1<<16) + ":LLeaf;", "U" + strings.Repeat("0", 1<<16) + ":LLeaf;",
		"U1:T", "U1:I", "U1:C", "U1:N", "U1:V", "U1:Leaf", "U1:LLeaf", "U1:eaf;", "U1:L;", "U1:L9;", "U1:L", "U1:;", "U1:lLeaf;", "U1:LLe af;", "U1:LLeaf;;", "U1:LLeaf;I", "U1:LLeaf;LLeaf;", "U1:LLeaf;:", "U1:LLeaf;:LLeaf;", "U1:U1:LLeaf;", "U1:LU1:LLeaf;;",
		"U1:[LLeaf;", "U1:[I", "U1:[[[[LLeaf;", "U1:[", "U1:L" + strings.Repeat("x", api.MaxName+1) + ";", "U1:L" + strings.Repeat("x", 1<<16) + ";",
	}
}

// strangeTypes may not be in the sample: no types, or such as lead to a class that is not there.
func strangeTypes() []string {
	l := []string{
		"V", "A", "i", "c", "n", "t", "TT", "II", "NN", "T ", " N", "N;", "T;", "L", "L;", ";", "Object", "LObject", "Object;", "LObject;;", "LObject;I", "LMid;LBase;", "LV;", "Lobject;", "LQ;", "LLea;", "L" + strings.Repeat("x", api.MaxName) + ";",
		"[", "[[[[", "[V", "[T", "[N", "[[T", "[[N", "[LQ;", "[[[[LQ;", "[[[[[I", "[[[[[LObject;", "[U1:LLeaf;", "(I)V", "\x00", "\xff", "é", strings.Repeat("[", 1<<16) + "I",
		"U1:LQ;", "U0:LQ;", "U1:LV;", "U1:Leaf;", "U9223372036854775807:LQ;", "U1:L" + strings.Repeat("x", api.MaxName) + ";",
	}
	return append(l, notMade()...)
}

// places are such as a made type may have.
func places() []int { return []int{0, 1, 9, 10, 11, 99, 100, 199, 200, 1 << 31, math.MaxInt} }

// state is one of the words of two texts.
func state(locals, stack string) State {
	return State{Locals: strings.Fields(locals), Stack: strings.Fields(stack)}
}
