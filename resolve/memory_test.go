package resolve

import (
	"reflect"
	"strings"
	"testing"
	"unsafe"

	"lantern/api"
	"lantern/link"
)

// shares tells whether two texts have a byte of memory in common.
func shares(a, b string) bool {
	if a == "" || b == "" {
		return false
	}
	from := func(s string) uintptr { return uintptr(unsafe.Pointer(unsafe.StringData(s))) }
	return from(a) < from(b)+uintptr(len(b)) && from(b) < from(a)+uintptr(len(a))
}

// spoil turns all that a method's lists hold, the spare room too.
func spoil(m api.Method) {
	for i := range m.Code[:cap(m.Code)] {
		m.Code[:cap(m.Code)][i] = api.Instr{Op: 99, A: 99, Class: "bad", Name: "bad", Desc: "bad"}
	}
	for i := range m.Handlers[:cap(m.Handlers)] {
		m.Handlers[:cap(m.Handlers)][i] = api.Handler{From: 99, To: 99, At: 99, Class: "bad"}
	}
}

// whole is all that can be asked of a program.
func whole(p *link.Prog) map[string][]any {
	out := map[string][]any{}
	for _, name := range p.Names() {
		c, there := p.Class(name)
		out[name] = []any{c, there, p.Supers(name), p.Interfaces(name), p.Subs(name), p.Concrete(name)}
	}
	return out
}

// ask is one way to come by a method: what is told, as it is told.
type ask func(p *link.Prog) (owner string, m api.Method)

func asks() []ask {
	by := func(op int, class, name, d string) ask {
		return func(p *link.Prog) (string, api.Method) {
			owner, m, _ := Call(p, named(op, class, name, d))
			return owner, m
		}
	}
	return []ask{
		by(api.Callstatic, "Leaf", "st", "()V"), by(api.Callspecial, "Leaf", "m", "()V"), by(api.Callvirtual, "Base", "m", "(I)V"), by(api.Callvirtual, "Leaf", "h", "()V"), by(api.Callinterface, "Near", "<init>", "()V"), by(api.Callinterface, "Near", "near", "()V"),
		func(p *link.Prog) (string, api.Method) {
			owner, m, _ := Method(p, "Leaf", "m", "(C)V")
			return owner, m
		},
		func(p *link.Prog) (string, api.Method) {
			owner, m, _ := Dispatch(p, "Leaf", "h", "()V")
			return owner, m
		},
		func(p *link.Prog) (string, api.Method) {
			owner, m, _ := Dispatch(p, "Sys", "<init>", "()V")
			return owner, m
		},
	}
}

// P8.4: a method that was told may be turned: the program stays, and so do other answers.
func TestMethodsAreNewMemory(t *testing.T) {
	p := linked(t, methodSample()...)
	before := whole(p)
	for i, ask := range asks() {
		owner, m := ask(p)
		other, n := ask(p)
		if owner == "" || owner != other || !reflect.DeepEqual(m, n) {
			t.Errorf("ask %d: %q, %+v; then %q, %+v", i, owner, m, other, n)
		}
		spoil(m)
		if again, o := ask(p); again != owner || !reflect.DeepEqual(o, n) {
			t.Errorf("ask %d: what was told is turned, and so is what is told: %q, %+v", i, again, o)
		}
		if !reflect.DeepEqual(whole(p), before) {
			t.Fatalf("ask %d: what was told is turned, and so is the program", i)
		}
	}
}

// P8.4: texts that are told are apart from those that came in, from those of the program, and from each other.
func TestTextsAreNewMemory(t *testing.T) {
	p, q := linked(t, methodSample()...), linked(t, fieldSample()...)
	for _, class := range []string{"Base", "Mid", "Leaf", "Other", "Near", "Zed", "Task", "Sys", "Object", "MemEx"} {
		class = strings.Clone(class)
		for _, told := range []func() string{
			func() string { owner, _, _ := Method(p, class, "m", "()V"); return owner },
			func() string { owner, _, _ := Method(p, class, "<init>", "()V"); return owner },
			func() string { owner, _, _ := Dispatch(p, class, "m", "()V"); return owner },
			func() string { owner, _, _ := Call(p, named(api.Callstatic, class, "st", "()V")); return owner },
			func() string { owner, _, _ := Call(p, named(api.Callvirtual, class, "m", "()V")); return owner },
			func() string { owner, _ := Field(q, class, "k", "I", true); return owner },
			func() string { return Initializes(p, named(api.New, class, "", "")) },
			func() string { return Initializes(p, named(api.Callstatic, class, "st", "()V")) },
			func() string { return Initializes(q, named(api.Getstatic, class, "k", "I")) },
		} {
			owner, again := told(), told()
			if owner != again || shares(owner, again) || shares(owner, class) {
				t.Errorf("%q: %q and %q share memory, or with what came in", class, owner, again)
			}
			for _, name := range append(p.Names(), q.Names()...) {
				if shares(owner, name) {
					t.Errorf("%q: %q shares memory with the program", class, owner)
				}
			}
		}
	}
}

// A text that came in may be turned later (by its memory) and no answer turns with it.
func TestNothingKept(t *testing.T) {
	l := []api.Class{class("aaaa", "Object", shared("aaaa", "Laaaa;"), static("aaaa", "()V"), code("bbbb", "()V")), class("bbbb", "Object")}
	p := linked(t, l...)
	room := []byte("aaaa")
	text := unsafe.String(&room[0], len(room))
	owner, m, _ := Method(p, text, text, "()V")
	called, n, _ := Call(p, named(api.Callstatic, text, text, "()V"))
	made, got := Initializes(p, named(api.New, text, "", "")), Initializes(p, named(api.Getstatic, text, text, "Laaaa;"))
	field, _ := Field(p, text, text, "Laaaa;", true)
	copy(room, "bbbb")
	sent, o, _ := Dispatch(p, "aaaa", text, "()V")
	copy(room, "cccc")
	for _, s := range []string{owner, m.Name, called, n.Name, made, got, field, sent} {
		if s != "aaaa" {
			t.Errorf("an answer became %q", s)
		}
	}
	if o.Name != "bbbb" {
		t.Errorf("an answer became %q", o.Name)
	}
	if _, _, e := Method(p, text, text, "()V"); e != api.ErrLink || Initializes(p, named(api.New, text, "", "")) != "" {
		t.Errorf("of %q what was told of an earlier text is told", text)
	}
}

// The program is as it was, whatever was asked, and what is told hangs on nothing that was asked ahead, nor on the order
// of the classes.
func TestProgramStays(t *testing.T) {
	l := methodSample()
	turned := methodSample()
	for i := range l {
		turned[i] = l[len(l)-1-i]
	}
	p, fresh, other := linked(t, l...), linked(t, l...), linked(t, turned...)
	askAll := func(p *link.Prog) (out []any) {
		for _, class := range append(p.Names(), "None") {
			for _, name := range []string{"m", "st", "k", "h", "a", "<init>", "<clinit>", "near", "both"} {
				owner, m, e := Method(p, class, name, "()V")
				sent, n, ok := Dispatch(p, class, name, "()V")
				out = append(out, owner, m, e, sent, n, ok, Clinit(p, class))
				for _, op := range ops() {
					called, c, ce := Call(p, named(op, class, name, "()V"))
					out = append(out, called, c, ce, Initializes(p, named(op, class, name, "()V")))
				}
			}
		}
		return out
	}
	first := askAll(p)
	if !reflect.DeepEqual(askAll(p), first) || !reflect.DeepEqual(askAll(other), first) {
		t.Error("the same was asked, and other things are told")
	}
	if !reflect.DeepEqual(whole(p), whole(fresh)) {
		t.Error("the program became another")
	}
}
