package classfile

import (
	"fmt"
	"math"
	"slices"
	"strings"
	"testing"

	"lantern/api"
)

// wantCheck asks Check of a class, and that Encode says the same.
func wantCheck(t *testing.T, what string, c api.Class, want api.Errno) {
	t.Helper()
	if got := Check(c); got != want {
		t.Errorf("P5.1: %q: Check is %d, want %d", what, got, want)
	}
	b, e := Encode(c)
	if e != want || (len(b) != 0) != (want == api.OK) {
		t.Errorf("P5.2: %q: Encode tells %d bytes and %d, want %d", what, len(b), e, want)
	}
}

// change is one thing that is turned in a class, and what Check tells of it then.
type change struct {
	name string
	turn func(c *api.Class)
	want api.Errno
}

func head(name string, want api.Errno, turn func(c *api.Class)) change {
	return change{name, turn, want}
}

// Where full has its methods.
const (
	abstractOne = iota
	staticOne
	initOne
	clinitOne
	plainOne
)

func method(n int, name string, want api.Errno, turn func(m *api.Method)) change {
	return change{fmt.Sprintf("method %d: %s", n, name), func(c *api.Class) { turn(&c.Methods[n]) }, want}
}

// wantChanges asks Check of full with each of them.
func wantChanges(t *testing.T, l []change) {
	t.Helper()
	for _, x := range l {
		c := full()
		x.turn(&c)
		wantCheck(t, x.name, c, x.want)
	}
}

func badNames() []string {
	return []string{"9", "9a", "a b", "a.b", "LA;", "<x>", "<init", "\x00", "\xff", "é", strings.Repeat("x", api.MaxName+1)}
}

func TestCheckSamples(t *testing.T) {
	for name, c := range samples() {
		wantCheck(t, name, c, api.OK)
	}
	wantCheck(t, "zero", api.Class{}, api.ErrName)
}

func TestCheckHeadNames(t *testing.T) {
	var l []change
	for _, s := range append(badNames(), "", "<init>", "<clinit>", "I;") {
		l = append(l, head("Name "+s, api.ErrName, func(c *api.Class) { c.Name = s }))
		l = append(l, head("first of Implements "+s, api.ErrName, func(c *api.Class) { c.Implements[0] = s }))
		l = append(l, head("last of Implements "+s, api.ErrName, func(c *api.Class) { c.Implements[1] = s }))
		if s != "" {
			l = append(l, head("Super "+s, api.ErrName, func(c *api.Class) { c.Super = s }))
		}
	}
	for _, s := range []string{"a", "_", "I", "x9", longName(1)} {
		l = append(l, head("names "+s, api.OK, func(c *api.Class) { c.Name, c.Super, c.Implements = s, s, []string{s, s} }))
	}
	l = append(l, head("empty Super", api.OK, func(c *api.Class) { c.Super = "" }))
	wantChanges(t, l)
}

// implements, fields and methods lay so many of them into full.
func implements(n int) func(c *api.Class) {
	return func(c *api.Class) { c.Implements = slices.Repeat([]string{"J"}, n) }
}

func fields(n int) func(c *api.Class) {
	return func(c *api.Class) { c.Fields = slices.Repeat(c.Fields[:1], n) }
}

func methods(n int) func(c *api.Class) {
	return func(c *api.Class) {
		for len(c.Methods) < n {
			c.Methods = append(c.Methods, api.Method{Name: "g", Desc: "()V", Abstract: true})
		}
	}
}

func TestCheckHeadLimits(t *testing.T) {
	wantChanges(t, []change{
		head("no Implements", api.OK, implements(0)),
		head("MaxClasses Implements", api.OK, implements(api.MaxClasses)),
		head("one more", api.ErrLimit, implements(api.MaxClasses+1)),
		head("many more", api.ErrLimit, implements(70000)),
		head("no Fields", api.OK, fields(0)),
		head("MaxFields Fields", api.OK, fields(api.MaxFields)),
		head("one more", api.ErrLimit, fields(api.MaxFields+1)),
		head("no Methods", api.OK, func(c *api.Class) { c.Methods = nil }),
		head("MaxMethods Methods", api.OK, methods(api.MaxMethods)),
		head("one more", api.ErrLimit, methods(api.MaxMethods+1)),
	})
}

func TestCheckFields(t *testing.T) {
	var l []change
	for at := range 3 {
		for _, s := range append(badNames(), "", "<init>", "<clinit>") {
			l = append(l, head("field's Name "+s, api.ErrName, func(c *api.Class) { c.Fields[at].Name = s }))
		}
		for _, s := range []string{"", "V", "A", "LA", "[", "[V", "[[[[[I", "()V", "L9;", "II"} {
			l = append(l, head("field's Desc "+s, api.ErrName, func(c *api.Class) { c.Fields[at].Desc = s }))
		}
		for _, s := range []string{"I", "C", "LA;", "[[[[I", "[[[[LA;"} {
			l = append(l, head("field's Desc "+s, api.OK, func(c *api.Class) { c.Fields[at].Desc = s }))
		}
		l = append(l, head("field turned static", api.OK, func(c *api.Class) { c.Fields[at].Static = !c.Fields[at].Static }))
	}
	wantChanges(t, l)
}

func TestCheckMethodNames(t *testing.T) {
	var l []change
	for _, at := range []int{abstractOne, staticOne, plainOne} {
		for _, s := range append(badNames(), "", "<init>x", "<clinit") {
			l = append(l, method(at, "Name "+s, api.ErrName, func(m *api.Method) { m.Name = s }))
		}
		for _, s := range []string{"", "I", "V", "()", "(V)V", "()VV", "(LA)V", "(IIIIIIIII)V", "()[[[[[I"} {
			l = append(l, method(at, "Desc "+s, api.ErrName, func(m *api.Method) { m.Desc = s }))
		}
	}
	wantChanges(t, l)
}

func TestCheckInit(t *testing.T) {
	set := func(static, abstract bool, desc string) func(m *api.Method) {
		return func(m *api.Method) {
			*m = api.Method{Name: "<init>", Desc: desc, Static: static, Abstract: abstract}
			if !abstract {
				m.Locals, m.Code = 9, []api.Instr{{Op: api.Return}}
			}
		}
	}
	for at := range 5 {
		wantChanges(t, []change{
			method(at, "<init>", api.OK, set(false, false, "()V")),
			method(at, "<init> of parameters", api.OK, set(false, false, "(IIIIIIII)V")),
			method(at, "<init>, static", api.ErrName, set(true, false, "()V")),
			method(at, "<init>, abstract", api.ErrName, set(false, true, "()V")),
			method(at, "<init>, both", api.ErrName, set(true, true, "()V")),
			method(at, "<init> of an int", api.ErrName, set(false, false, "()I")),
			method(at, "<init> of a class", api.ErrName, set(false, false, "(I)LV;")),
			method(at, "<init> of no method's type", api.ErrName, set(false, false, "V")),
		})
	}
}

func TestCheckClinit(t *testing.T) {
	set := func(static, abstract bool, desc string) func(m *api.Method) {
		return func(m *api.Method) {
			*m = api.Method{Name: "<clinit>", Desc: desc, Static: static, Abstract: abstract}
			if !abstract {
				m.Locals, m.Code = 9, []api.Instr{{Op: api.Return}}
			}
		}
	}
	for at := range 5 {
		wantChanges(t, []change{
			method(at, "<clinit>", api.OK, set(true, false, "()V")),
			method(at, "<clinit>, not static", api.ErrName, set(false, false, "()V")),
			method(at, "<clinit>, abstract", api.ErrName, set(false, true, "()V")),
			method(at, "<clinit>, static and abstract", api.ErrForm, set(true, true, "()V")),
			method(at, "<clinit> of an int", api.ErrName, set(true, false, "()I")),
			method(at, "<clinit> of a parameter", api.ErrName, set(true, false, "(I)V")),
			method(at, "<clinit> of no method's type", api.ErrName, set(true, false, "V")),
		})
	}
}

func TestCheckMethodLimits(t *testing.T) {
	code := func(n int) func(m *api.Method) {
		return func(m *api.Method) {
			m.Handlers, m.Code = nil, slices.Repeat([]api.Instr{{Op: api.Return}}, n)
		}
	}
	handlers := func(n int) func(m *api.Method) {
		return func(m *api.Method) { m.Handlers = slices.Repeat([]api.Handler{{To: 1}}, n) }
	}
	for _, at := range []int{staticOne, initOne, plainOne} {
		wantChanges(t, []change{
			method(at, "Stack 0", api.OK, func(m *api.Method) { m.Stack = 0 }),
			method(at, "Stack -1", api.ErrLimit, func(m *api.Method) { m.Stack = -1 }),
			method(at, "MaxStack", api.OK, func(m *api.Method) { m.Stack = api.MaxStack }),
			method(at, "MaxStack + 1", api.ErrLimit, func(m *api.Method) { m.Stack = api.MaxStack + 1 }),
			method(at, "Stack 256", api.ErrLimit, func(m *api.Method) { m.Stack = 256 }),
			method(at, "greatest Stack", api.ErrLimit, func(m *api.Method) { m.Stack = math.MaxInt }),
			method(at, "Locals -1", api.ErrLimit, func(m *api.Method) { m.Locals = -1 }),
			method(at, "MaxLocals", api.OK, func(m *api.Method) { m.Locals = api.MaxLocals }),
			method(at, "MaxLocals + 1", api.ErrLimit, func(m *api.Method) { m.Locals = api.MaxLocals + 1 }),
			method(at, "least Locals", api.ErrLimit, func(m *api.Method) { m.Locals = math.MinInt }),
			method(at, "one instruction", api.OK, code(1)),
			method(at, "MaxCode", api.OK, code(api.MaxCode)),
			method(at, "MaxCode + 1", api.ErrLimit, code(api.MaxCode+1)),
			method(at, "65537 instructions", api.ErrLimit, code(65537)),
			method(at, "no handlers", api.OK, handlers(0)),
			method(at, "MaxHandlers", api.OK, handlers(api.MaxHandlers)),
			method(at, "MaxHandlers + 1", api.ErrLimit, handlers(api.MaxHandlers+1)),
		})
	}
}

func TestCheckAbstract(t *testing.T) {
	wantChanges(t, []change{
		method(abstractOne, "as it is", api.OK, func(m *api.Method) {}),
		method(abstractOne, "of eight parameters", api.OK, func(m *api.Method) { m.Desc = longMethod(1) }),
		method(abstractOne, "static", api.ErrForm, func(m *api.Method) { m.Static = true }),
		method(abstractOne, "Stack 1", api.ErrForm, func(m *api.Method) { m.Stack = 1 }),
		method(abstractOne, "MaxStack", api.ErrForm, func(m *api.Method) { m.Stack = api.MaxStack }),
		method(abstractOne, "Stack -1", api.ErrLimit, func(m *api.Method) { m.Stack = -1 }),
		method(abstractOne, "Locals 1", api.ErrForm, func(m *api.Method) { m.Locals = 1 }),
		method(abstractOne, "Locals for its parameters", api.ErrForm, func(m *api.Method) { m.Locals = 2 }),
		method(abstractOne, "Locals 21", api.ErrLimit, func(m *api.Method) { m.Locals = 21 }),
		method(abstractOne, "code", api.ErrForm, func(m *api.Method) { m.Code = []api.Instr{{Op: api.Return}} }),
		method(abstractOne, "too much code", api.ErrLimit, func(m *api.Method) { m.Code = make([]api.Instr, api.MaxCode+1) }),
		method(abstractOne, "a handler", api.ErrForm, func(m *api.Method) { m.Handlers = []api.Handler{{}} }),
		method(abstractOne, "too many handlers", api.ErrLimit, func(m *api.Method) { m.Handlers = make([]api.Handler, api.MaxHandlers+1) }),
		method(abstractOne, "no more abstract", api.ErrForm, func(m *api.Method) { m.Abstract = false }),
	})
	for _, at := range []int{staticOne, initOne, clinitOne, plainOne} {
		wantChanges(t, []change{
			method(at, "no code", api.ErrForm, func(m *api.Method) { m.Code = nil }),
			method(at, "no code, no handlers", api.ErrForm, func(m *api.Method) { m.Code, m.Handlers = []api.Instr{}, nil }),
		})
	}
}

func TestCheckLocals(t *testing.T) {
	for params := range api.MaxParams + 1 {
		for _, kind := range []string{"I", "C", "LA;", "[[[[LA;"} {
			for _, static := range []bool{false, true} {
				need := params
				if !static {
					need++
				}
				for locals := range need + 2 {
					want := api.OK
					if locals < need {
						want = api.ErrIndex
					}
					c := least()
					c.Methods = []api.Method{{Name: "f", Desc: "(" + strings.Repeat(kind, params) + ")V", Static: static, Locals: locals, Code: []api.Instr{{Op: api.Return}}}}
					wantCheck(t, fmt.Sprintf("%d parameters, static %v, %d Locals", params, static, locals), c, want)
				}
			}
		}
	}
}

func TestCheckInstructions(t *testing.T) {
	set := func(place int, x api.Instr) func(m *api.Method) {
		return func(m *api.Method) { m.Code[place] = x }
	}
	for _, place := range []int{0, api.Ops - 1} {
		wantChanges(t, []change{
			method(plainOne, "Op 0", api.ErrTag, set(place, api.Instr{})),
			method(plainOne, "Op -1", api.ErrTag, set(place, api.Instr{Op: -1})),
			method(plainOne, "Op Ops + 1", api.ErrTag, set(place, api.Instr{Op: api.Ops + 1})),
			method(plainOne, "Op 257", api.ErrTag, set(place, api.Instr{Op: 257})),
			method(plainOne, "A beyond the ints", api.ErrLimit, set(place, api.Instr{Op: api.Iconst, A: 1 << 31})),
			method(plainOne, "B beyond the ints", api.ErrLimit, set(place, api.Instr{Op: api.Cconst, B: -1<<31 - 1})),
			method(plainOne, "no class", api.ErrName, set(place, api.Instr{Op: api.New})),
			method(plainOne, "an array of five", api.ErrName, set(place, api.Instr{Op: api.Newarray, Desc: "[[[[I"})),
			method(plainOne, "last local", api.OK, set(place, api.Instr{Op: api.Load, A: api.MaxLocals - 1})),
			method(plainOne, "one more", api.ErrIndex, set(place, api.Instr{Op: api.Load, A: api.MaxLocals})),
			method(plainOne, "last place", api.OK, set(place, api.Instr{Op: api.Goto, A: api.Ops - 1})),
			method(plainOne, "one more", api.ErrIndex, set(place, api.Instr{Op: api.Goto, A: api.Ops})),
			method(plainOne, "what its Op does not have", api.OK, set(place, api.Instr{Op: api.Pop, A: 1 << 40, B: -1 << 40, Class: "9", Name: "", Desc: "V"})),
		})
	}
	// Length and locals are the method's own, not those of another one.
	wantChanges(t, []change{
		method(staticOne, "last local", api.OK, set(0, api.Instr{Op: api.Store, A: 0})),
		method(staticOne, "one more", api.ErrIndex, set(0, api.Instr{Op: api.Store, A: 1})),
		method(staticOne, "last place", api.OK, set(0, api.Instr{Op: api.Ifnull, A: 2})),
		method(staticOne, "one more", api.ErrIndex, set(0, api.Instr{Op: api.Ifnull, A: 3})),
	})
}

func TestCheckHandlers(t *testing.T) {
	const n = 3
	for _, x := range []struct {
		h    api.Handler
		want api.Errno
	}{
		{api.Handler{From: 0, To: n, At: n - 1}, api.OK},
		{api.Handler{From: 0, To: 1, At: 0}, api.OK},
		{api.Handler{From: n - 1, To: n, At: 0}, api.OK},
		{api.Handler{From: -1, To: 1, At: 0}, api.ErrIndex},
		{api.Handler{From: 0, To: 0, At: 0}, api.ErrIndex},
		{api.Handler{From: 1, To: 1, At: 0}, api.ErrIndex},
		{api.Handler{From: n, To: n, At: 0}, api.ErrIndex},
		{api.Handler{From: 2, To: 1, At: 0}, api.ErrIndex},
		{api.Handler{From: 0, To: n + 1, At: 0}, api.ErrIndex},
		{api.Handler{From: n, To: n + 1, At: 0}, api.ErrIndex},
		{api.Handler{From: 0, To: n, At: -1}, api.ErrIndex},
		{api.Handler{From: 0, To: n, At: n}, api.ErrIndex},
		{api.Handler{From: math.MinInt, To: n, At: 0}, api.ErrIndex},
		{api.Handler{From: 0, To: math.MaxInt, At: 0}, api.ErrIndex},
		{api.Handler{From: 0, To: n, At: math.MaxInt}, api.ErrIndex},
		{api.Handler{From: 0, To: n, At: 0, Class: ""}, api.OK},
		{api.Handler{From: 0, To: n, At: 0, Class: longName(3)}, api.OK},
		{api.Handler{From: 0, To: n, At: 0, Class: "9"}, api.ErrName},
		{api.Handler{From: 0, To: n, At: 0, Class: "LA;"}, api.ErrName},
		{api.Handler{From: 0, To: n, At: 0, Class: "<init>"}, api.ErrName},
		{api.Handler{From: 0, To: n, At: n, Class: "9"}, api.ErrIndex},
	} {
		for place := range 2 {
			c := full()
			c.Methods[staticOne].Handlers[place] = x.h
			wantCheck(t, fmt.Sprintf("handler %d is %v", place, x.h), c, x.want)
		}
	}
	// One handler is looked at whole ahead of the next.
	c := full()
	c.Methods[staticOne].Handlers[0].Class, c.Methods[staticOne].Handlers[1].At = "9", n
	wantCheck(t, "a Class, then a place", c, api.ErrName)
	c.Methods[staticOne].Handlers[0], c.Methods[staticOne].Handlers[1] = c.Methods[staticOne].Handlers[1], c.Methods[staticOne].Handlers[0]
	wantCheck(t, "a place, then a Class", c, api.ErrIndex)
}

func TestCheckPool(t *testing.T) {
	for n, want := range map[int]api.Errno{6: api.OK, api.MaxPool - 1: api.OK, api.MaxPool: api.OK, api.MaxPool + 1: api.ErrLimit, 606: api.ErrLimit} {
		c := withTexts(n)
		if got := len(plainPool(c)); got != n {
			t.Fatalf("%d texts, want %d", got, n)
		}
		wantCheck(t, fmt.Sprint(n, " texts"), c, want)
	}
	// One more text of each kind, the empty one too, is one too many.
	for _, x := range []change{
		head("an empty Super", api.ErrLimit, func(c *api.Class) { c.Super, c.Implements = "", []string{"Object"} }),
		head("Implements", api.ErrLimit, func(c *api.Class) { c.Implements = []string{"J"} }),
		head("a field's Desc", api.ErrLimit, func(c *api.Class) { c.Fields = []api.Field{{Name: "A", Desc: "I"}} }),
		head("a handler's empty Class", api.ErrLimit, func(c *api.Class) { c.Methods[0].Handlers = []api.Handler{{To: 1}} }),
		head("a known text", api.OK, func(c *api.Class) { c.Methods[0].Handlers = []api.Handler{{To: 1, Class: "A"}} }),
	} {
		c := withTexts(api.MaxPool)
		x.turn(&c)
		wantCheck(t, "MaxPool texts, and "+x.name, c, x.want)
	}
}

// inOrder are faults of full, in the order in which P5.1 looks for them.
func inOrder() []change {
	l := []change{
		head("Name", api.ErrName, func(c *api.Class) { c.Name = "" }),
		head("Super", api.ErrName, func(c *api.Class) { c.Super = "9" }),
		head("Implements", api.ErrName, func(c *api.Class) { c.Implements = append(c.Implements, "9") }),
		head("many Implements", api.ErrLimit, func(c *api.Class) { c.Implements = append(c.Implements, slices.Repeat([]string{"J"}, 31)...) }),
		head("many Fields", api.ErrLimit, func(c *api.Class) { c.Fields = append(c.Fields, slices.Repeat(c.Fields[2:], 20)...) }),
		head("many Methods", api.ErrLimit, methods(21)),
		head("a field's Name", api.ErrName, func(c *api.Class) { c.Fields[0].Name = "" }),
		head("a field's Desc", api.ErrName, func(c *api.Class) { c.Fields[1].Desc = "V" }),
		method(abstractOne, "Name", api.ErrName, func(m *api.Method) { m.Name = "9" }),
		method(abstractOne, "Stack", api.ErrLimit, func(m *api.Method) { m.Stack = -1 }),
		method(abstractOne, "static", api.ErrForm, func(m *api.Method) { m.Static = true }),
	}
	for _, at := range []int{staticOne, plainOne} {
		l = append(l,
			method(at, "Desc", api.ErrName, func(m *api.Method) { m.Desc = "I" }),
			method(at, "Stack", api.ErrLimit, func(m *api.Method) { m.Stack = 21 }),
			method(at, "no code", api.ErrForm, func(m *api.Method) { m.Code = nil }),
			method(at, "Locals", api.ErrIndex, func(m *api.Method) { m.Locals = 0 }),
			method(at, "Op", api.ErrTag, func(m *api.Method) { m.Code[0] = api.Instr{} }),
			method(at, "a Desc", api.ErrName, func(m *api.Method) { m.Code[1] = api.Instr{Op: api.Cast, Desc: "I"} }),
			method(at, "a number", api.ErrLimit, func(m *api.Method) { m.Code[2] = api.Instr{Op: api.Iconst, A: 1 << 31} }),
			method(at, "At", api.ErrIndex, func(m *api.Method) { m.Handlers[0].At = 200 }),
			method(at, "Class", api.ErrName, func(m *api.Method) { m.Handlers[0].Class = "9" }),
		)
	}
	return append(l, head("many texts", api.ErrLimit, func(c *api.Class) { c.Methods = append(c.Methods, withTexts(505).Methods...) }))
}

func TestCheckTwoFaults(t *testing.T) {
	l := inOrder()
	wantChanges(t, l)
	for i, first := range l {
		for _, second := range l[i+1:] {
			c := full()
			// The second goes in ahead: the first may take away where it stands.
			second.turn(&c)
			first.turn(&c)
			wantCheck(t, first.name+"; "+second.name, c, first.want)
		}
	}
}
