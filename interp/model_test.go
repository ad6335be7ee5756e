package interp

import (
	"fmt"
	"slices"
	"strings"

	"lantern/api"
	"lantern/link"
)

// model is a machine by the document's words, one after the other, from the classes as they were declared. It knows code that
// fits alone: it never gets Stuck.
type model struct {
	classes map[string]api.Class
	script  api.Script
	asked   int // allocations
	objects []modelObject
	statics map[string]api.Value
	inits   map[string]int
	frames  []*modelFrame
	behind  bool // the entry's beginning
	events  []string
	state   int
	thrown  int
	steps   int
}

type modelObject struct {
	of, site string
	fields   map[string]api.Value
	elems    []api.Value
}

type modelFrame struct {
	class string
	x     api.Method
	kind  string // of what pushed it
	pc    int
	vars  []api.Value
	stack []api.Value
}

func (f *modelFrame) key() string { return f.class + "." + f.x.Name + f.x.Desc }

func (f *modelFrame) push(v api.Value) { f.stack = append(f.stack, v) }

func (f *modelFrame) pop() api.Value {
	v := f.stack[len(f.stack)-1]
	f.stack = f.stack[:len(f.stack)-1]
	return v
}

func newModel(l []api.Class, class, name string, s api.Script) *model {
	m := &model{classes: map[string]api.Class{}, script: s, statics: map[string]api.Value{}, inits: map[string]int{}}
	for _, c := range append(link.Builtin(), l...) {
		m.classes[c.Name] = c
		for _, f := range c.Fields {
			if f.Static {
				m.statics[c.Name+"."+f.Name] = zeroOf(f.Desc)
			}
		}
	}
	x, _ := m.declared(class, name, "()V")
	m.frames = []*modelFrame{{class: class, x: x, kind: "entry", vars: make([]api.Value, x.Locals)}}
	return m
}

func zeroOf(d string) api.Value {
	return api.Value{Kind: max(0, strings.Index("IC", d[:1])) + 2*min(1, strings.Count(d, "L")+strings.Count(d, "["))}
}

// supers goes from a class to Object.
func (m *model) supers(class string) []string {
	if class == "" {
		return nil
	}
	return append([]string{class}, m.supers(m.classes[class].Super)...)
}

// oneOf tells whether a class has another above it.
func (m *model) oneOf(sub, super string) bool {
	if sub == super || sub == "" {
		return sub == super
	}
	c := m.classes[sub]
	return m.oneOf(c.Super, super) || slices.ContainsFunc(c.Implements, func(f string) bool { return m.oneOf(f, super) })
}

// fits tells whether a type is one of another.
func (m *model) fits(sub, super string) bool {
	switch {
	case sub == super, super == "LObject;" && strings.ContainsAny(sub[:1], "L["):
		return true
	case sub[0] == '[' && super[0] == '[':
		return strings.ContainsAny(sub[1:2], "L[") && strings.ContainsAny(super[1:2], "L[") && m.fits(sub[1:], super[1:])
	case sub[0] == 'L' && super[0] == 'L':
		return m.oneOf(strings.Trim(sub, "L;"), strings.Trim(super, "L;"))
	}
	return false
}

func (m *model) declared(class, name, d string) (api.Method, bool) {
	for _, x := range m.classes[class].Methods {
		if x.Name == name && x.Desc == d {
			return x, true
		}
	}
	return api.Method{}, false
}

// found is the first of a class's supers with such a method, of objects or static.
func (m *model) found(class, name, d string, static bool) (string, api.Method) {
	for _, c := range m.supers(class) {
		if x, ok := m.declared(c, name, d); ok && !x.Abstract && x.Static == static {
			return c, x
		}
	}
	panic("the model finds no " + class + "." + name + d)
}

// owner is that of a field; static ones of interfaces are asked for by the interface.
func (m *model) owner(x api.Instr) string {
	for _, c := range m.supers(x.Class) {
		for _, f := range m.classes[c].Fields {
			if f.Name == x.Name && f.Desc == x.Desc {
				return c
			}
		}
	}
	panic("the model finds no " + x.Class + "." + x.Name)
}

func (m *model) object(ref int) *modelObject { return &m.objects[ref-1] }

// classOf is what an object is asked for; of an array it is Object.
func (m *model) classOf(ref int) string {
	if of := m.object(ref).of; of[0] == 'L' {
		return of[1 : len(of)-1]
	}
	return "Object"
}

func (m *model) make(of, site string) int {
	o := modelObject{of: of, site: site, fields: map[string]api.Value{}}
	if site[0] != '!' && of[0] == 'L' {
		for _, c := range m.supers(of[1 : len(of)-1]) {
			for _, f := range m.classes[c].Fields {
				if !f.Static {
					o.fields[c+"."+f.Name] = zeroOf(f.Desc)
				}
			}
		}
	}
	m.objects = append(m.objects, o)
	return len(m.objects)
}

// refused counts an allocation.
func (m *model) refused() bool {
	m.asked++
	return slices.Contains(m.script.Fails, m.asked)
}

func (m *model) show(word string, f *modelFrame, what string) {
	m.events = append(m.events, strings.TrimSpace(fmt.Sprint(word, " ", f.key(), " ", f.pc, " ", what)))
}

// raise throws what the machine makes.
func (m *model) raise(class string) { m.throw(m.make("L"+class+";", "!"+class)) }

func (m *model) throw(ref int) {
	class := m.classOf(ref)
	m.show("throw", m.frames[len(m.frames)-1], class)
	for n := len(m.frames); n > 0; n-- {
		f := m.frames[n-1]
		for _, h := range f.x.Handlers {
			if f.pc >= h.From && f.pc < h.To && (h.Class == "" || m.oneOf(class, h.Class)) {
				f.pc, f.stack = h.At, []api.Value{vRef(ref)}
				m.show("catch", f, class)
				m.behind = m.behind || n == 1
				return
			}
		}
		m.frames = m.frames[:n-1]
		if f.kind == "init" {
			m.inits[f.class] = 3
			m.raise("InitEx")
			return
		}
	}
	m.state, m.thrown = Died, ref
}

// waits asks for a class's initialisation, and tells whether the step is over.
func (m *model) waits(class string) bool {
	l := m.supers(class)
	for i := len(l) - 1; i >= 0; i-- {
		x, has := m.declared(l[i], "<clinit>", "()V")
		switch {
		case m.inits[l[i]] == 3:
			m.raise("InitEx")
			return true
		case m.inits[l[i]] == 0 && has:
			m.inits[l[i]] = 1
			m.show("init", m.frames[len(m.frames)-1], l[i]+".<clinit>()V")
			m.frames = append(m.frames, &modelFrame{class: l[i], x: x, kind: "init", vars: make([]api.Value, x.Locals)})
			return true
		case m.inits[l[i]] == 0:
			m.inits[l[i]] = 2
		}
	}
	return false
}

func (m *model) step() {
	if m.state != Runs {
		return
	}
	m.steps++
	f := m.frames[len(m.frames)-1]
	if f.kind == "entry" && !m.behind {
		if m.waits(f.class) {
			return
		}
		m.behind = true
	}
	x := f.x.Code[f.pc]
	asks := ""
	switch x.Op {
	case api.New:
		asks = x.Class
	case api.Getstatic, api.Putstatic:
		asks = m.owner(x)
	case api.Callstatic:
		if x.Class != "Sys" {
			asks, _ = m.found(x.Class, x.Name, x.Desc, true)
		}
	}
	if asks != "" && m.waits(asks) {
		return
	}
	if ex := m.does(f, x); ex != "" {
		m.raise(ex)
	}
}

// does is an instruction: it tells what it throws of its own.
func (m *model) does(f *modelFrame, x api.Instr) string {
	switch x.Op {
	case api.Callstatic, api.Callspecial, api.Callvirtual, api.Callinterface:
		return m.calls(f, x)
	case api.Return, api.Retval:
		m.returns(f, x)
		return ""
	case api.Goto, api.Ifzero, api.Ifnull, api.Ifsame:
		a, b := vInt(0), vInt(0)
		if x.Op != api.Goto {
			a = f.pop()
		}
		if x.Op == api.Ifsame {
			b = f.pop()
		}
		f.pc++
		if a.N == b.N {
			f.pc = x.A
		}
		return ""
	case api.Throw:
		if ref := f.pop().N; ref != 0 {
			m.throw(ref)
			return ""
		}
		return "NullEx"
	}
	ex := m.plain(f, x)
	if ex == "" {
		ex = m.reaches(f, x)
	}
	if ex == "" {
		f.pc++
	}
	return ex
}

// plain is what touches the frame alone.
func (m *model) plain(f *modelFrame, x api.Instr) string {
	two := func() (api.Value, api.Value) { b := f.pop(); return f.pop(), b }
	wrap := func(n int) { f.push(vInt(int(int32(n)))) }
	switch x.Op {
	case api.Iconst:
		f.push(vInt(x.A))
	case api.Cconst:
		f.push(vCpx(complex(float64(x.A), float64(x.B))))
	case api.Null:
		f.push(vRef(0))
	case api.Load:
		f.push(f.vars[x.A])
	case api.Store:
		f.vars[x.A] = f.pop()
	case api.Pop:
		f.pop()
	case api.Dup:
		v := f.pop()
		f.push(v)
		f.push(v)
	case api.Swap:
		a, b := two()
		f.push(b)
		f.push(a)
	case api.Iadd:
		a, b := two()
		wrap(a.N + b.N)
	case api.Isub:
		a, b := two()
		wrap(a.N - b.N)
	case api.Imul:
		a, b := two()
		wrap(a.N * b.N)
	case api.Idiv:
		a, b := two()
		if b.N == 0 {
			return "ArithEx"
		}
		wrap(a.N / b.N)
	case api.Cadd:
		a, b := two()
		f.push(vCpx(complex(real(a.C)+real(b.C), imag(a.C)+imag(b.C))))
	case api.Cmul:
		a, b := two()
		re := float64(real(a.C)*real(b.C)) - float64(imag(a.C)*imag(b.C))
		f.push(vCpx(complex(re, float64(real(a.C)*imag(b.C))+float64(imag(a.C)*real(b.C)))))
	case api.Cre:
		re := real(f.pop().C)
		if !(re >= -1<<31 && re < 1<<31) {
			re = 0
		}
		f.push(vInt(int(re)))
	}
	return ""
}

// reaches is what touches objects and statics.
func (m *model) reaches(f *modelFrame, x api.Instr) string {
	site := fmt.Sprint(f.key(), "@", f.pc)
	switch x.Op {
	case api.New:
		if m.refused() {
			return "MemEx"
		}
		f.push(vRef(m.make("L"+x.Class+";", site)))
	case api.Newarray:
		n := f.pop().N
		if n < 0 || n > 100 {
			return "BoundsEx"
		}
		if m.refused() {
			return "MemEx"
		}
		ref := m.make("["+x.Desc, site)
		m.object(ref).elems = slices.Repeat([]api.Value{zeroOf(x.Desc)}, n)
		f.push(vRef(ref))
	case api.Getstatic:
		f.push(m.statics[m.owner(x)+"."+x.Name])
	case api.Putstatic:
		m.statics[m.owner(x)+"."+x.Name] = f.pop()
	case api.Getfield, api.Putfield:
		v := f.stack[len(f.stack)-1]
		if x.Op == api.Putfield {
			f.pop()
		}
		ref := f.pop().N
		if ref == 0 {
			return "NullEx"
		}
		name := m.owner(x) + "." + x.Name
		if x.Op == api.Putfield {
			m.object(ref).fields[name] = v
		} else {
			f.push(m.object(ref).fields[name])
		}
	case api.Cast, api.Isinst:
		v := f.pop()
		is := v.N != 0 && m.fits(m.object(v.N).of, x.Desc)
		switch {
		case x.Op == api.Isinst && is:
			f.push(vInt(1))
		case x.Op == api.Isinst:
			f.push(vInt(0))
		case v.N != 0 && !is:
			return "CastEx"
		default:
			f.push(v)
		}
	case api.Alen, api.Aload, api.Astore:
		return m.arrays(f, x)
	}
	return ""
}

func (m *model) arrays(f *modelFrame, x api.Instr) string {
	var v, i api.Value
	if x.Op == api.Astore {
		v = f.pop()
	}
	if x.Op != api.Alen {
		i = f.pop()
	}
	ref := f.pop().N
	if ref == 0 {
		return "NullEx"
	}
	o := m.object(ref)
	switch {
	case x.Op == api.Alen:
		f.push(vInt(len(o.elems)))
	case i.N < 0 || i.N >= len(o.elems):
		return "BoundsEx"
	case x.Op == api.Aload:
		f.push(o.elems[i.N])
	case v.Kind == api.VRef && v.N != 0 && !m.fits(m.object(v.N).of, o.of[1:]):
		return "StoreEx"
	default:
		o.elems[i.N] = v
	}
	return ""
}

// count is how many parameters a method's type has.
func count(d string) int {
	n := 0
	for in := d[1:strings.Index(d, ")")]; in != ""; n++ {
		in = strings.TrimLeft(in, "[")
		if in[0] == 'L' {
			in = in[strings.Index(in, ";"):]
		}
		in = in[1:]
	}
	return n
}

func (m *model) calls(f *modelFrame, x api.Instr) string {
	n := count(x.Desc)
	if x.Op != api.Callstatic {
		n++
	}
	args := f.stack[len(f.stack)-n:]
	class, y, kind := "", api.Method{}, "call"
	switch {
	case x.Class == "Sys":
		m.show("native", f, "Sys."+x.Name+x.Desc)
		if x.Name != "call" {
			return m.natives(f, x)
		}
		if args[0].N == 0 {
			return "NullEx"
		}
		kind = "run"
		class, y = m.found(m.classOf(args[0].N), "run", "()V", false)
	case x.Op == api.Callstatic:
		class, y = m.found(x.Class, x.Name, x.Desc, true)
	case args[0].N == 0:
		return "NullEx"
	case x.Op == api.Callspecial:
		class, y = m.found(x.Class, x.Name, x.Desc, false)
	default:
		class, y = m.found(m.classOf(args[0].N), x.Name, x.Desc, false)
	}
	if len(m.frames) >= 30 {
		return "DepthEx"
	}
	g := &modelFrame{class: class, x: y, kind: kind, vars: append(slices.Clone(args), make([]api.Value, y.Locals-n)...)}
	m.show("call", f, g.key())
	f.stack = f.stack[:len(f.stack)-n]
	m.frames = append(m.frames, g)
	return ""
}

func (m *model) natives(f *modelFrame, x api.Instr) string {
	switch x.Name {
	case "pick":
		n := 0
		if len(m.script.Picks) > 0 {
			n, m.script.Picks = m.script.Picks[0], m.script.Picks[1:]
		}
		f.push(vInt(int(int32(n))))
	case "fresh":
		if m.refused() {
			return "MemEx"
		}
		f.push(vRef(m.make("LObject;", "fresh")))
	}
	f.pc++
	return ""
}

func (m *model) returns(f *modelFrame, x api.Instr) {
	m.frames = m.frames[:len(m.frames)-1]
	if len(m.frames) == 0 {
		m.state = Ended
		m.show("end", f, "")
		return
	}
	below := m.frames[len(m.frames)-1]
	if f.kind == "init" {
		m.inits[f.class] = 2
		return
	}
	if f.kind == "call" && x.Op == api.Retval {
		below.push(f.pop())
	}
	below.pc++
}

// whole is what is told of the machine, as that is (whole_test).
func (m *model) whole(p *link.Prog) string {
	var b strings.Builder
	fmt.Fprintln(&b, m.state, m.thrown, m.steps)
	fmt.Fprintln(&b, strings.Join(m.events, "\n"))
	for _, f := range m.frames {
		fmt.Fprintln(&b, f.key(), f.pc, allBits(f.vars), "|", allBits(f.stack))
	}
	for i, o := range m.objects {
		fmt.Fprint(&b, i+1, " ", o.of, " ", o.site)
		names := []string{}
		for name := range o.fields {
			names = append(names, name)
		}
		slices.Sort(names)
		for _, name := range names {
			fmt.Fprint(&b, " ", name, "=", bits(o.fields[name]))
		}
		fmt.Fprintln(&b, " [", allBits(o.elems), "]")
	}
	for _, name := range p.Names() {
		fmt.Fprintln(&b, name, m.inits[name])
		for _, f := range m.classes[name].Fields {
			v, ok := m.statics[name+"."+f.Name]
			fmt.Fprintln(&b, f.Name, bits(v), ok)
		}
	}
	return b.String()
}
