package link

import (
	"reflect"
	"testing"
	"unsafe"

	"lantern/api"
)

// spoil turns all that a class's lists hold, the spare room too.
func spoil(c *api.Class) {
	bad := api.Instr{Op: 99, A: 99, B: 99, Class: "bad", Name: "bad", Desc: "bad"}
	for i := range c.Methods[:cap(c.Methods)] {
		m := &c.Methods[:cap(c.Methods)][i]
		for j := range m.Code[:cap(m.Code)] {
			m.Code[:cap(m.Code)][j] = bad
		}
		for j := range m.Handlers[:cap(m.Handlers)] {
			m.Handlers[:cap(m.Handlers)][j] = api.Handler{From: 99, To: 99, At: 99, Class: "bad"}
		}
		*m = api.Method{Name: "bad", Desc: "bad"}
	}
	for i := range c.Fields[:cap(c.Fields)] {
		c.Fields[:cap(c.Fields)][i] = api.Field{Name: "bad", Desc: "bad"}
	}
	spoilTexts(c.Implements)
	*c = api.Class{Name: "bad", Super: "bad"}
}

func spoilTexts(l []string) {
	for i := range l[:cap(l)] {
		l[:cap(l)][i] = "bad"
	}
}

// roomy is a class with something in each of its lists, and spare room in each of them that holds a mark.
func roomy(name string) api.Class {
	code := make([]api.Instr, 4, 6)
	code[0] = api.Instr{Op: api.Callstatic, Class: "Sys", Name: "pick", Desc: "()I"}
	code[1] = api.Instr{Op: api.Pop, A: 7, B: 8, Class: "x", Name: "y", Desc: "z"}
	code[2] = api.Instr{Op: api.New, Class: name}
	code[3] = api.Instr{Op: api.Throw}
	code[:6][5] = api.Instr{Op: 55}
	handlers := make([]api.Handler, 2, 4)
	handlers[0] = api.Handler{From: 0, To: 2, At: 3, Class: "NullEx"}
	handlers[1] = api.Handler{From: 1, To: 3, At: 3}
	handlers[:4][3] = api.Handler{From: 55}
	methods := make([]api.Method, 2, 4)
	methods[0] = api.Method{Name: "run", Desc: "()V", Stack: 2, Locals: 1, Code: code, Handlers: handlers}
	methods[1] = api.Method{Name: "f", Desc: "()V", Abstract: true}
	methods[:4][3] = api.Method{Name: "mark"}
	fields := make([]api.Field, 1, 3)
	fields[0] = api.Field{Name: "x", Desc: "L" + name + ";", Static: true}
	fields[:3][2] = api.Field{Name: "mark"}
	faces := make([]string, 2, 4)
	faces[0], faces[1], faces[:4][3] = "Task", "I", "mark"
	return api.Class{Name: name, Super: "Object", Abstract: true, Implements: faces, Fields: fields, Methods: methods}
}

// whole is all that a class's lists hold, the spare room too.
func whole(c api.Class) api.Class {
	c.Implements = append([]string(nil), c.Implements[:cap(c.Implements)]...)
	c.Fields = append([]api.Field(nil), c.Fields[:cap(c.Fields)]...)
	c.Methods = append([]api.Method(nil), c.Methods[:cap(c.Methods)]...)
	for i := range c.Methods {
		m := &c.Methods[i]
		m.Code = append([]api.Instr(nil), m.Code[:cap(m.Code)]...)
		m.Handlers = append([]api.Handler(nil), m.Handlers[:cap(m.Handlers)]...)
	}
	return c
}

func wholes(l []api.Class) []api.Class {
	var out []api.Class
	for _, c := range l[:cap(l)] {
		out = append(out, whole(c))
	}
	return out
}

// roomyList is classes out of order, with spare room behind them.
func roomyList() []api.Class {
	l := make([]api.Class, 3, 5)
	l[0], l[1], l[2] = roomy("Z"), roomy("B"), face("I")
	l[:5][4] = class("mark", "Object")
	return l
}

func TestClassesLeaveWhatIsHandedIn(t *testing.T) {
	for what, l := range map[string][]api.Class{
		"a program":           roomyList(),
		"two of one Name":     append(roomyList()[:2:3], class("Z", "Object")),
		"a Super that is not": append(roomyList()[:2:3], class("C", "None")),
		"a Name that is none": append(roomyList()[:2:3], class("9", "Object")),
	} {
		before := wholes(l)
		Classes(l...)
		if !reflect.DeepEqual(wholes(l), before) {
			t.Errorf("%s: what was handed in is turned", what)
		}
	}
}

func TestClassesKeepNothing(t *testing.T) {
	l := roomyList()
	p := linked(t, l...)
	want := seen(linked(t, roomyList()...))
	for i := range l {
		spoil(&l[i])
	}
	if !reflect.DeepEqual(seen(p), want) {
		t.Error("what was handed in is turned afterwards, and so is the program")
	}
}

// TestTextsAreNotKept: the texts' bytes are turned behind their back.
func TestTextsAreNotKept(t *testing.T) {
	var buffers [][]byte
	text := func(s string) string {
		if s == "" {
			return ""
		}
		b := []byte(s)
		buffers = append(buffers, b)
		return unsafe.String(&b[0], len(b))
	}
	turned := func(c api.Class) api.Class {
		c = withOwnLists(c)
		c.Name, c.Super = text(c.Name), text(c.Super)
		for i := range c.Implements {
			c.Implements[i] = text(c.Implements[i])
		}
		for i := range c.Fields {
			c.Fields[i].Name, c.Fields[i].Desc = text(c.Fields[i].Name), text(c.Fields[i].Desc)
		}
		for i := range c.Methods {
			m := &c.Methods[i]
			m.Name, m.Desc = text(m.Name), text(m.Desc)
			for j := range m.Code {
				x := &m.Code[j]
				x.Class, x.Name, x.Desc = text(x.Class), text(x.Name), text(x.Desc)
			}
			for j := range m.Handlers {
				m.Handlers[j].Class = text(m.Handlers[j].Class)
			}
		}
		return c
	}
	spoilAll := func() {
		for _, b := range buffers {
			clear(b)
		}
		buffers = nil
	}

	want := seen(linked(t, roomyList()...))
	p := linked(t, turned(roomy("Z")), turned(roomy("B")), turned(face("I")))
	spoilAll()
	if !reflect.DeepEqual(seen(p), want) {
		t.Error("a text that was handed in is kept")
	}
	for _, c := range []api.Class{class("A", "None"), class("A", "9")} {
		_, _, name := Classes(turned(c))
		spoilAll()
		if name != "A" {
			t.Errorf("the Name that is told: %q, want a text of its own", name)
		}
	}
	for _, ask := range []func(string) []string{p.Supers, p.Interfaces, p.Subs} {
		for _, s := range []string{"B", "I", "Object"} {
			want := ask(s)
			got := ask(text(s))
			spoilAll()
			if !reflect.DeepEqual(got, want) {
				t.Errorf("of %q: %q, want %q: the name that was asked for is answered", s, got, want)
			}
		}
	}
}

func TestAnswersAreNewMemory(t *testing.T) {
	p := linked(t, roomyList()...)
	want := seen(p)
	for _, name := range append(p.Names(), "None", "") {
		c, _ := p.Class(name)
		spoil(&c)
		spoilTexts(p.Names())
		spoilTexts(p.Supers(name))
		spoilTexts(p.Interfaces(name))
		spoilTexts(p.Subs(name))
		if !reflect.DeepEqual(seen(p), want) {
			t.Fatalf("what was answered of %q is turned, and so is the program", name)
		}
	}
	a, _ := p.Class("B")
	b, _ := p.Class("B")
	spoil(&a)
	if !reflect.DeepEqual(b, roomy("B")) {
		t.Error("two answers share memory")
	}
}

func TestFilesKeepNothing(t *testing.T) {
	l := files(t, roomyList()...)
	for i := range l {
		l[i] = append(l[i], 1, 2, 3)[:len(l[i])]
	}
	roomyFiles := append(make([][]byte, 0, 8), l...)
	roomyFiles[:8][7] = []byte{9}
	before := make([][]byte, 8)
	for i, b := range roomyFiles[:8] {
		before[i] = append([]byte(nil), b[:cap(b)]...)
	}
	p, e, n := Files(roomyFiles...)
	if p == nil || e != api.OK || n != 0 {
		t.Fatalf("Files: %v, %d, %d", p, e, n)
	}
	for i, b := range roomyFiles[:8] {
		if string(b[:cap(b)]) != string(before[i]) {
			t.Errorf("file %d is turned", i)
		}
	}
	want := seen(p)
	for _, b := range roomyFiles {
		clear(b[:cap(b)])
	}
	if !reflect.DeepEqual(seen(p), want) {
		t.Error("the bytes that were handed in are turned afterwards, and so is the program")
	}
}

func TestProgramsHaveNothingInCommon(t *testing.T) {
	p, q := linked(t, class("A", "Object")), linked(t, class("A", "Throwable"))
	if a, b := p.Supers("A"), q.Supers("A"); len(a) != 2 || len(b) != 3 {
		t.Errorf("Supers of two programs: %q, %q", a, b)
	}
	if _, e, _ := Classes(class("A", "None")); e != api.ErrLink {
		t.Errorf("Classes: %d", e)
	}
	if a := p.Supers("A"); len(a) != 2 {
		t.Errorf("Supers behind an error of another call: %q", a)
	}
}
