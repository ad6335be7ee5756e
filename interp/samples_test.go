package interp

import (
	"fmt"
	"math"
	"reflect"
	"strings"
	"testing"

	"lantern/api"
	"lantern/link"
)

// in is an instruction: numbers are A and B; one text is the Class of a New, and else Desc; three are Class, Name, Desc.
func in(op int, args ...any) api.Instr {
	x := api.Instr{Op: op}
	numbers, texts := []int{}, []string{}
	for _, a := range args {
		switch v := a.(type) {
		case int:
			numbers = append(numbers, v)
		case string:
			texts = append(texts, v)
		}
	}
	numbers = append(numbers, 0, 0)
	x.A, x.B = numbers[0], numbers[1]
	switch {
	case len(texts) == 3:
		x.Class, x.Name, x.Desc = texts[0], texts[1], texts[2]
	case len(texts) == 1 && op == api.New:
		x.Class = texts[0]
	case len(texts) == 1:
		x.Desc = texts[0]
	}
	return x
}

// code is instructions and rows of them, one behind the other.
func code(l ...any) []api.Instr {
	var all []api.Instr
	for _, x := range l {
		switch v := x.(type) {
		case api.Instr:
			all = append(all, v)
		case []api.Instr:
			all = append(all, v...)
		default:
			panic(fmt.Sprintf("%T is no code", x))
		}
	}
	return all
}

// What stands in most code.
var (
	back  = in(api.Return)
	nop   = in(api.Nop)
	pop   = in(api.Pop)
	dup   = in(api.Dup)
	null  = in(api.Null)
	throw = in(api.Throw)
	tell  = in(api.Retval)
)

func num(n int) api.Instr { return in(api.Iconst, n) }

// made is a new object, whose `<init>` is not called.
func made(class string) api.Instr { return in(api.New, class) }

// thrown makes an object and throws it.
func thrown(class string) []api.Instr { return code(made(class), throw) }

// list is an array of n.
func list(n int, elem string) []api.Instr { return code(num(n), in(api.Newarray, elem)) }

// part turns a class that is being made.
type part func(*api.Class)

func class(name, super string, parts ...part) api.Class {
	c := api.Class{Name: name, Super: super}
	for _, turn := range parts {
		turn(&c)
	}
	return c
}

// face is an interface.
func face(name string, parts ...part) api.Class {
	c := class(name, "Object", parts...)
	c.Interface, c.Abstract = true, true
	return c
}

func abstract(c *api.Class) { c.Abstract = true }

func implements(names ...string) part {
	return func(c *api.Class) { c.Implements = append(c.Implements, names...) }
}

// below turns a class's Super.
func below(super string) part { return func(c *api.Class) { c.Super = super } }

// own is a field of each object.
func own(name, d string) part {
	return func(c *api.Class) { c.Fields = append(c.Fields, api.Field{Name: name, Desc: d}) }
}

// shared is a static field.
func shared(name, d string) part {
	return func(c *api.Class) { c.Fields = append(c.Fields, api.Field{Name: name, Desc: d, Static: true}) }
}

func method(m api.Method) part {
	return func(c *api.Class) { c.Methods = append(c.Methods, m) }
}

// open is an abstract method.
func open(name, d string) part { return method(api.Method{Name: name, Desc: d, Abstract: true}) }

// static is a static method with a stack of 6 and 6 locals.
func static(name, d string, l ...any) part {
	return method(api.Method{Name: name, Desc: d, Static: true, Stack: 6, Locals: 6, Code: code(l...)})
}

// virtual is likewise one of objects.
func virtual(name, d string, l ...any) part {
	return method(api.Method{Name: name, Desc: d, Stack: 6, Locals: 6, Code: code(l...)})
}

// clinit is a `<clinit>`, with a Return behind the code.
func clinit(l ...any) part { return static("<clinit>", "()V", code(l...), back) }

// birth is an `<init>` that does nothing.
func birth(c *api.Class) { virtual("<init>", "()V", back)(c) }

// catches are handlers of the method that the class got last.
func catches(l ...api.Handler) part {
	return func(c *api.Class) {
		m := &c.Methods[len(c.Methods)-1]
		m.Handlers = append(m.Handlers, l...)
	}
}

// tall turns the Stack of the method that the class got last.
func tall(stack int) part {
	return func(c *api.Class) { c.Methods[len(c.Methods)-1].Stack = stack }
}

// on is a handler.
func on(from, to, at int, class string) api.Handler {
	return api.Handler{From: from, To: to, At: at, Class: class}
}

// entry is the key of main's main.
const entry = "M.main()V"

// main is a class M with some static fields and a method main; parts turn these.
func main(l []api.Instr, parts ...part) api.Class {
	all := []part{shared("r", "I"), shared("c", "C"), shared("o", "LObject;"), static("main", "()V", l)}
	return class("M", "Object", append(all, parts...)...)
}

// keep puts an int into M's r.
var keep = in(api.Putstatic, "M", "r", "I")

// keepRef puts a reference into M's o.
var keepRef = in(api.Putstatic, "M", "o", "LObject;")

func linked(t *testing.T, l ...api.Class) *link.Prog {
	t.Helper()
	p, e, name := link.Classes(l...)
	if e != api.OK {
		t.Fatalf("Classes: %d of %q", e, name)
	}
	return p
}

// begun is a machine at main's beginning.
func begun(t *testing.T, s api.Script, l ...api.Class) *Machine {
	t.Helper()
	m, e := New(linked(t, l...), entry, s)
	if e != api.OK {
		t.Fatalf("New: %d", e)
	}
	return m
}

// played is a machine that ran as long as it did.
func played(t *testing.T, s api.Script, l ...api.Class) *Machine {
	t.Helper()
	m := begun(t, s, l...)
	if m.Run(5000) == Runs {
		t.Fatal("it runs on")
	}
	return m
}

// plain plays without a script.
func plain(t *testing.T, l ...api.Class) *Machine {
	t.Helper()
	return played(t, api.Script{}, l...)
}

// picks is a script of picks alone, fails one of failing allocations alone.
func picks(l ...int) api.Script { return api.Script{Picks: l} }
func fails(l ...int) api.Script { return api.Script{Fails: l} }

// shown is what a machine showed, an event each: its kind, where, the place, what.
func shown(m *Machine) []string {
	words := []string{"none", "call", "throw", "catch", "native", "init", "end"}
	l := []string{}
	for _, e := range m.Events() {
		l = append(l, strings.TrimSpace(fmt.Sprint(words[e.Kind], " ", e.Where, " ", e.PC, " ", e.What)))
	}
	return l
}

// shows holds what a machine showed against a text: an event a line.
func shows(t *testing.T, m *Machine, want ...string) {
	t.Helper()
	if got := shown(m); strings.Join(got, "\n") != strings.Join(want, "\n") {
		t.Errorf("shown:\n\t%s\nwant:\n\t%s", strings.Join(got, "\n\t"), strings.Join(want, "\n\t"))
	}
}

// same compares what was told.
func same(t *testing.T, what string, got, want any) {
	t.Helper()
	if !reflect.DeepEqual(got, want) {
		t.Errorf("%s: %v, want %v", what, got, want)
	}
}

// frames compares a machine's frames; nil and an empty list are the same.
func frames(t *testing.T, m *Machine, want []Frame) {
	t.Helper()
	text := func(l []Frame) string {
		var b strings.Builder
		for _, f := range l {
			fmt.Fprintln(&b, f.Method, f.PC, allBits(f.Locals), "|", allBits(f.Stack))
		}
		return b.String()
	}
	if got := text(m.Frames()); got != text(want) {
		t.Errorf("Frames:\n%swant:\n%s", got, text(want))
	}
}

// state compares how a machine stands.
func state(t *testing.T, m *Machine, want int) {
	t.Helper()
	same(t, "State", m.State(), want)
}

// kept is what stands in M's r.
func kept(m *Machine) int {
	v, _ := m.Static("M", "r")
	return v.N
}

// keptRef is what stands in M's o.
func keptRef(m *Machine) int {
	v, _ := m.Static("M", "o")
	return v.N
}

// ends: it ended, with that in M's r.
func ends(t *testing.T, m *Machine, want int) {
	t.Helper()
	if m.State() != Ended || kept(m) != want || m.Thrown() != 0 || len(m.Frames()) != 0 {
		t.Errorf("State %d with %d, thrown %d, %d frames; want %d with %d", m.State(), kept(m), m.Thrown(), len(m.Frames()), Ended, want)
	}
}

// dies: it died of a machine exception of that class.
func dies(t *testing.T, m *Machine, class string) {
	t.Helper()
	h, ref := m.Heap(), m.Thrown()
	if m.State() != Died || h.Type(ref) != "L"+class+";" || h.Site(ref) != "!"+class || len(h.Fields(ref)) != 0 || len(m.Frames()) != 0 {
		t.Errorf("State %d of a %s of %s, %d frames; want %d of a %s", m.State(), h.Type(ref), h.Site(ref), len(m.Frames()), Died, class)
	}
}

// bits is a value in a form that tells each bit of its parts, but of a NaN.
func bits(v api.Value) string {
	part := func(x float64) string {
		if math.IsNaN(x) {
			return "NaN"
		}
		return fmt.Sprintf("%x", math.Float64bits(x))
	}
	return fmt.Sprint(v.Kind, " ", v.N, " ", part(real(v.C)), " ", part(imag(v.C)))
}

// allBits is that of a row of values.
func allBits(l []api.Value) string {
	s := []string{}
	for _, v := range l {
		s = append(s, bits(v))
	}
	return strings.Join(s, ", ")
}

// values compares two rows, bit by bit.
func values(t *testing.T, what string, got, want []api.Value) {
	t.Helper()
	if allBits(got) != allBits(want) {
		t.Errorf("%s: %v, want %v", what, got, want)
	}
}

func vInt(n int) api.Value        { return api.Value{Kind: api.VInt, N: n} }
func vCpx(c complex128) api.Value { return api.Value{Kind: api.VCpx, C: c} }
func vRef(n int) api.Value        { return api.Value{Kind: api.VRef, N: n} }

// last is the highest frame.
func last(t *testing.T, m *Machine) Frame {
	t.Helper()
	l := m.Frames()
	if len(l) == 0 {
		t.Fatal("there is no frame")
	}
	return l[len(l)-1]
}
