package subtype

import (
	"reflect"
	"strings"
	"testing"
	"unsafe"

	"lantern/api"
	"lantern/link"
)

// shared tells whether two texts have a byte of memory in common.
func shared(a, b string) bool {
	if a == "" || b == "" {
		return false
	}
	from := func(s string) uintptr { return uintptr(unsafe.Pointer(unsafe.StringData(s))) }
	return from(a) < from(b)+uintptr(len(b)) && from(b) < from(a)+uintptr(len(a))
}

// What is answered is new memory, apart from the texts that come in, and from those of the program.
func TestNewMemory(t *testing.T) {
	p := linked(t, sample()...)
	for _, c := range [][2]string{{"Leaf", "Leaf"}, {"F", "F"}, {"Leaf", "Mid"}, {"Mid", "Leaf"}, {"Leaf", "Side"}, {"Leaf", "F"}, {"Object", "Lone"}, {"Object", "Object"}} {
		apart(t, "Common", p, c, Common)
	}
	for _, c := range [][2]string{{"LLeaf;", "LLeaf;"}, {"LLeaf;", "LMid;"}, {"LMid;", "LLeaf;"}, {"LObject;", "[I"}, {"[I", "LObject;"}, {"[I", "[I"}, {"[[I", "[[I"}, {"[LLeaf;", "[LLeaf;"}, {"[LLeaf;", "[LMid;"}, {"[[[[LF;", "[[[[LF;"}} {
		apart(t, "Merge", p, c, Merge)
	}
}

func apart(t *testing.T, what string, p *link.Prog, c [2]string, call func(*link.Prog, string, string) string) {
	t.Helper()
	a, b := strings.Clone(c[0]), strings.Clone(c[1])
	first, second := call(p, a, b), call(p, a, b)
	if first == "" || first != second {
		t.Errorf("%s of %q: %q, then %q", what, c, first, second)
	}
	if shared(first, a) || shared(first, b) {
		t.Errorf("%s of %q: %q shares memory with what came in", what, c, first)
	}
	for _, name := range p.Names() {
		// Object's name is written out here and there: as a constant it has one memory.
		if name != "Object" && shared(first, name) {
			t.Errorf("%s of %q: %q shares memory with the program", what, c, first)
		}
	}
}

// A text that came in may be turned later (by its memory) and no answer turns with it.
func TestNothingKept(t *testing.T) {
	p := linked(t, sample()...)
	room := []byte("LLeaf;")
	text := unsafe.String(&room[0], len(room))
	merged, common := Merge(p, text, text), Common(p, text[1:5], text[1:5])
	if !Type(p, text, "LMid;") || !Known(p, text) || !Class(p, text[1:5], "Mid") {
		t.Fatalf("%q is one of the program", text)
	}
	copy(room, "LLone;")
	if merged != "LLeaf;" || common != "Leaf" {
		t.Errorf("the answers became %q and %q", merged, common)
	}
	if Type(p, text, "LMid;") || !Known(p, text) || Class(p, text[1:5], "Mid") || Merge(p, text, text) != "LLone;" || Common(p, text[1:5], "Leaf") != "Object" {
		t.Errorf("of %q what was told of an earlier text is told", text)
	}
}

// whole is all that can be asked of a program.
func whole(p *link.Prog) map[string][]any {
	out := map[string][]any{}
	for _, name := range p.Names() {
		c, there := p.Class(name)
		out[name] = []any{c, there, p.Supers(name), p.Interfaces(name), p.Subs(name), p.Concrete(name)}
	}
	return out
}

// The program is as it was, whatever was asked, and what is told hangs on nothing that was asked ahead.
func TestProgramStays(t *testing.T) {
	p, fresh := linked(t, sample()...), linked(t, sample()...)
	types := append(knownTypes(p), "", "V", "LQ;")
	for i, a := range types {
		b := types[(i*7+3)%len(types)]
		Type(p, a, b)
		Merge(p, a, b)
		Known(p, a)
		Class(p, a, b)
		Common(p, strings.Trim(a, "[L;"), strings.Trim(b, "[L;"))
	}
	if !reflect.DeepEqual(whole(p), whole(fresh)) {
		t.Errorf("the program became another")
	}
	for i, a := range types {
		b := types[(i*11+5)%len(types)]
		if Type(p, a, b) != Type(fresh, a, b) || Merge(p, a, b) != Merge(fresh, a, b) {
			t.Errorf("%q and %q: a program that was asked before tells otherwise than a fresh one", a, b)
		}
	}
}

// In whatever order the classes come, what is told is the same.
func TestOrderOfClasses(t *testing.T) {
	l := sample()
	var turned []api.Class
	for i := range l {
		turned = append(turned, l[len(l)-1-i])
	}
	p, q := linked(t, l...), linked(t, turned...)
	for _, a := range knownTypes(p) {
		for _, b := range []string{"LObject;", "LF;", "LBase;", "[LObject;", "[LMid;", "[[LLeaf;", "[[I", "LSideLeaf;"} {
			if Type(p, a, b) != Type(q, a, b) || Merge(p, a, b) != Merge(q, a, b) {
				t.Errorf("%q and %q: it hangs on the order of the classes", a, b)
			}
		}
	}
}
