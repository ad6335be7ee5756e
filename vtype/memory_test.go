package vtype

import (
	"reflect"
	"slices"
	"strings"
	"testing"
	"unsafe"

	"lantern/api"
	"lantern/link"
)

// writable is a text whose bytes may be turned later.
func writable(s string) (string, []byte) {
	b := []byte(s)
	return unsafe.String(unsafe.SliceData(b), len(b)), b
}

// spoil turns each byte.
func spoil(b []byte) {
	for i := range b {
		b[i] = '#'
	}
}

// shares tells whether two texts have a byte of memory in common.
func shares(a, b string) bool {
	if a == "" || b == "" {
		return false
	}
	from := func(s string) uintptr { return uintptr(unsafe.Pointer(unsafe.StringData(s))) }
	return from(a) < from(b)+uintptr(len(b)) && from(b) < from(a)+uintptr(len(a))
}

// roomy is a list with spare room, and something in that.
func roomy(l ...string) []string { return append(slices.Clone(l), "spare", "more")[:len(l)] }

// blot lays something else at each place of a list, in its spare room too.
func blot(l []string) {
	room := l[:cap(l)]
	for i := range room {
		room[i] = "bad"
	}
}

// What is handed in is not changed, the spare room neither.
func TestListsStay(t *testing.T) {
	p := linked(t, sample()...)
	for _, c := range [][2]string{{"I", "C"}, {"N", "LLeaf;"}, {"LLeaf;", "LSide;"}, {"I", "I"}, {"LQ;", "I"}} {
		a, b := State{Locals: roomy(c[0], "I"), Stack: roomy(c[1])}, State{Locals: roomy(c[1], "I"), Stack: roomy(c[0])}
		lists := [][]string{a.Locals, a.Stack, b.Locals, b.Stack}
		var before [][]string
		for _, l := range lists {
			before = append(before, slices.Clone(l[:cap(l)]))
		}
		Join(p, a, b)
		Join(p, a, a)
		Same(a, b)
		for i, l := range lists {
			if !slices.Equal(l[:cap(l)], before[i]) {
				t.Errorf("%q: list %d became %q", c, i, l[:cap(l)])
			}
		}
	}
}

// The lists of a State may be turned behind the call, and those that were told may be: no other turns with them.
func TestJoinIsNewMemory(t *testing.T) {
	p := linked(t, sample()...)
	fresh := func() State { return State{Locals: roomy("I", "LLeaf;", "U1:LLeaf;"), Stack: roomy("N", "[I")} }
	for _, same := range []bool{false, true} {
		a, b := fresh(), fresh()
		if same {
			b = a
		}
		first, e := Join(p, a, b)
		second, f := Join(p, a, b)
		if e != api.OK || f != api.OK {
			t.Fatal(e, f)
		}
		for _, l := range [][]string{a.Locals, a.Stack, b.Locals, b.Stack, second.Stack, second.Locals} {
			blot(l)
		}
		if !Same(first, fresh()) {
			t.Errorf("what was told became %q", first)
		}
		blot(first.Locals)
		if !slices.Equal(first.Stack, fresh().Stack) {
			t.Errorf("with the locals the stack became %q", first.Stack)
		}
		blot(first.Stack)
		if !slices.Equal(first.Locals[:cap(first.Locals)], slices.Repeat([]string{"bad"}, cap(first.Locals))) {
			t.Errorf("with the stack the locals became %q", first.Locals)
		}
	}
}

// The list that Start tells may be turned: the method stays, and so does another answer.
func TestStartIsNewMemory(t *testing.T) {
	p := linked(t, sample()...)
	m := method("(ILLone;)V", false, 5)
	first, second := Start(p, "Leaf", m), Start(p, "Leaf", m)
	blot(first.Locals)
	if want := state("LLeaf; I LLone; T T", ""); !Same(second, want) || !Same(Start(p, "Leaf", m), want) {
		t.Errorf("another answer became %q", second)
	}
}

// answers is what the calls tell of texts that come in.
func answers(p *link.Prog, a, b, name, d string) []string {
	x, y := State{Locals: []string{a}, Stack: []string{b}}, State{Locals: []string{b}, Stack: []string{a}}
	joined, _ := Join(p, x, y)
	alike, _ := Join(p, x, x)
	start := Start(p, name, method(d, false, 6))
	_, of, _ := Of(Made(3, name))
	_, read, _ := Of(a)
	l := []string{Merge(p, a, b), Merge(p, b, a), Merge(p, a, a), Merge(p, b, b), Made(3, name), of, read}
	for _, s := range []State{joined, alike, start} {
		l = append(append(l, s.Locals...), s.Stack...)
	}
	return l
}

// Texts that are told are apart from those that came in, and from those of the program.
func TestTextsAreNewMemory(t *testing.T) {
	p := linked(t, sample()...)
	var own []string
	for _, name := range p.Names() {
		c, _ := p.Class(name)
		// Object's name is written out here and there: as a constant it has one memory.
		if name != "Object" {
			own = append(own, c.Name)
		}
	}
	for _, c := range [][2]string{{"LLeaf;", "LMid;"}, {"N", "LLeaf;"}, {"N", "[LLeaf;"}, {"U1:LLeaf;", "U2:LLeaf;"}, {"U1:LLeaf;", "U1:LLeaf;"}, {"I", "C"}, {"T", "LLeaf;"}, {"[LLeaf;", "[LSide;"}, {"LF;", "[C"}} {
		a, b, name, d := strings.Clone(c[0]), strings.Clone(c[1]), strings.Clone("Leaf"), strings.Clone("(I[CLLone;)V")
		for _, told := range answers(p, a, b, name, d) {
			for _, in := range append([]string{a, b, name, d}, own...) {
				if shares(told, in) {
					t.Errorf("%q: %q shares memory with %q", c, told, in)
				}
			}
		}
	}
}

// Texts that came in may be turned later, by their memory: no answer turns with them, and none later hangs on them.
func TestTextsNotKept(t *testing.T) {
	p := linked(t, sample()...)
	for _, c := range [][2]string{{"LLeaf;", "LMid;"}, {"N", "[LLeaf;"}, {"U1:LLeaf;", "LLeaf;"}, {"U1:LLeaf;", "U1:LLeaf;"}, {"I", "T"}} {
		want := answers(p, c[0], c[1], "Leaf", "(I[CLLone;)V")
		a, roomA := writable(c[0])
		b, roomB := writable(c[1])
		name, roomName := writable("Leaf")
		d, roomDesc := writable("(I[CLLone;)V")
		got := answers(p, a, b, name, d)
		for _, room := range [][]byte{roomA, roomB, roomName, roomDesc} {
			spoil(room)
		}
		if !slices.Equal(got, want) || !slices.Equal(answers(p, c[0], c[1], "Leaf", "(I[CLLone;)V"), want) {
			t.Errorf("%q: the answers became %q", c, got)
		}
		if May(p, a) || Fits(p, a, b) || Merge(p, a, a) != "" {
			t.Errorf("%q: of %q what was told of an earlier text is told", c, a)
		}
	}
}

// whole is all that can be asked of a program.
func whole(p *link.Prog) map[string][]any {
	out := map[string][]any{}
	for _, name := range p.Names() {
		c, there := p.Class(name)
		out[name] = []any{c, there, p.Supers(name), p.Interfaces(name), p.Subs(name), p.Concrete(name)}
	}
	return out
}

// The program is as it was, whatever was asked, and what is told hangs on nothing that was asked ahead, nor on the order of the classes.
func TestProgramStays(t *testing.T) {
	turned := sample()
	slices.Reverse(turned)
	p, fresh := linked(t, sample()...), linked(t, turned...)
	l := append(typesOf(p), "", "V", "LQ;", "U1:LQ;")
	for i, a := range l {
		b := l[(i*7+3)%len(l)]
		answers(p, a, b, "Leaf", "(ILLone;)V")
		Fits(p, a, b)
	}
	if !reflect.DeepEqual(whole(p), whole(fresh)) {
		t.Error("the program became another")
	}
	for i, a := range l {
		b := l[(i*11+5)%len(l)]
		if May(p, a) != May(fresh, a) || Fits(p, a, b) != Fits(fresh, a, b) || Merge(p, a, b) != Merge(fresh, a, b) {
			t.Errorf("%q and %q: a program that was asked before tells otherwise than a fresh one", a, b)
		}
	}
}
