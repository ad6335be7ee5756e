package resolve

import (
	"fmt"
	"math/rand"
	"reflect"
	"slices"
	"testing"

	"lantern/api"
	"lantern/link"
)

// model tells by the document's words, one after the other, from the classes as they were declared.
type model struct {
	classes map[string]api.Class
}

func newModel(l []api.Class) *model {
	m := &model{classes: map[string]api.Class{}}
	for _, c := range append(link.Builtin(), l...) {
		m.classes[c.Name] = c
	}
	return m
}

// supers goes from a class to Object.
func (m *model) supers(name string) []string {
	if _, there := m.classes[name]; !there {
		return nil
	}
	return append([]string{name}, m.supers(m.classes[name].Super)...)
}

// interfaces goes every way up, and may tell one more than once.
func (m *model) interfaces(name string) []string {
	var l []string
	c := m.classes[name]
	if c.Interface {
		l = append(l, name)
	}
	for _, next := range append([]string{c.Super}, c.Implements...) {
		if next != "" {
			l = append(l, m.interfaces(next)...)
		}
	}
	slices.Sort(l)
	return l
}

func (m *model) all(name string) []string { return append(m.supers(name), m.interfaces(name)...) }

func (m *model) field(class string, want api.Field) (string, api.Errno) {
	for _, name := range m.all(class) {
		if slices.Contains(m.classes[name].Fields, want) {
			return name, api.OK
		}
	}
	return "", api.ErrLink
}

// method is the first one in those classes that is wanted, too.
func (m *model) method(classes []string, name, d string, wanted func(api.Method) bool) (string, api.Method, bool) {
	for _, class := range classes {
		for _, x := range m.classes[class].Methods {
			if x.Name == name && x.Desc == d && wanted(x) {
				return class, x, true
			}
		}
	}
	return "", api.Method{}, false
}

func (m *model) anyMethod(class, name, d string) (string, api.Method, api.Errno) {
	owner, x, ok := m.method(m.all(class), name, d, func(api.Method) bool { return true })
	if !ok {
		return "", api.Method{}, api.ErrLink
	}
	return owner, x, api.OK
}

func (m *model) dispatch(class, name, d string) (string, api.Method, bool) {
	return m.method(m.supers(class), name, d, func(x api.Method) bool { return !x.Static && !x.Abstract })
}

func (m *model) call(x api.Instr) (string, api.Method, api.Errno) {
	owner, found, e := m.anyMethod(x.Class, x.Name, x.Desc)
	special, inface := x.Op == api.Callspecial, m.classes[x.Class].Interface
	switch {
	case e != api.OK,
		!slices.Contains(calls(), x.Op),
		x.Op == api.Callstatic && !found.Static,
		x.Op != api.Callstatic && found.Static,
		special && found.Abstract,
		special && x.Name == "<init>" && owner != x.Class,
		x.Op == api.Callvirtual && inface,
		x.Op == api.Callinterface && !inface:
		return "", api.Method{}, api.ErrLink
	}
	return owner, found, api.OK
}

func (m *model) clinit(class string) bool {
	return slices.ContainsFunc(m.classes[class].Methods, func(x api.Method) bool { return x.Name == "<clinit>" })
}

func (m *model) initializes(x api.Instr) string {
	_, there := m.classes[x.Class]
	switch {
	case x.Op == api.New && there:
		return x.Class
	case x.Op == api.Getstatic, x.Op == api.Putstatic:
		owner, _ := m.field(x.Class, api.Field{Name: x.Name, Desc: x.Desc, Static: true})
		return owner
	case x.Op == api.Callstatic:
		owner, _, _ := m.call(x)
		if owner == "Sys" {
			return ""
		}
		return owner
	}
	return ""
}

// fieldNames, methodNames and so on are what made-up programs are made of: few, so that they meet.
func fieldNames() []string  { return []string{"f", "g"} }
func fieldDescs() []string  { return []string{"I", "LObject;"} }
func methodNames() []string { return []string{"m", "n", "run", "<init>", "<clinit>"} }
func methodDescs() []string { return []string{"()V", "(I)V"} }

// members gives a class fields and methods.
func members(r *rand.Rand, c *api.Class) {
	for _, name := range fieldNames() {
		if r.Intn(2) == 0 {
			c.Fields = append(c.Fields, api.Field{Name: name, Desc: fieldDescs()[r.Intn(2)], Static: c.Interface || r.Intn(2) == 0})
		}
	}
	for _, name := range methodNames() {
		for _, d := range methodDescs() {
			if r.Intn(3) > 0 || name == "<clinit>" && d != "()V" || name == "<init>" && c.Interface {
				continue
			}
			switch kind := r.Intn(3); {
			case name == "<clinit>":
				static(name, d)(c)
			case name == "<init>":
				code(name, d)(c)
			case c.Interface || kind == 0 && c.Abstract:
				open(name, d)(c)
			default:
				marked(name, d, kind == 1, r.Intn(1000))(c)
			}
		}
	}
}

// program is made-up classes and interfaces: each leads only to some that were made ahead of it.
func program(r *rand.Rand) []api.Class {
	var l []api.Class
	supers, faces := []string{"Object", "Throwable"}, []string{"Task"}
	for i := range 2 + r.Intn(10) {
		c := class(fmt.Sprint(string("zaMb"[r.Intn(4)]), i), supers[r.Intn(len(supers))], abstract)
		for _, f := range faces {
			if r.Intn(3) == 0 {
				c.Implements = append(c.Implements, f)
			}
		}
		if r.Intn(3) == 0 {
			c.Super, c.Interface = "Object", true
			faces = append(faces, c.Name)
		} else {
			c.Abstract = r.Intn(2) == 0
			supers = append(supers, c.Name)
		}
		members(r, &c)
		l = append(l, c)
	}
	r.Shuffle(len(l), func(i, j int) { l[i], l[j] = l[j], l[i] })
	return l
}

// madeUp is a made-up program, in which each class that lacks a method has become abstract.
func madeUp(t *testing.T, seed int64) ([]api.Class, *link.Prog) {
	t.Helper()
	l := program(rand.New(rand.NewSource(seed)))
	for range l {
		p, e, name := link.Classes(l...)
		if e == api.OK {
			return l, p
		}
		i := slices.IndexFunc(l, func(c api.Class) bool { return c.Name == name })
		if e != api.ErrLink || l[i].Abstract {
			t.Fatalf("seed %d: Classes: %d of %q", seed, e, name)
		}
		l[i].Abstract = true
	}
	return l, linked(t, l...)
}

// agree holds an answer against the model's.
func agree(t *testing.T, what string, at any, got, want []any) {
	t.Helper()
	if !reflect.DeepEqual(got, want) {
		t.Errorf("%s %v:\n got %+v\nwant %+v", what, at, got, want)
	}
}

func (m *model) agreeFields(t *testing.T, p *link.Prog, class string) {
	t.Helper()
	for _, name := range append(fieldNames(), "m", "") {
		for _, d := range append(fieldDescs(), "C", "") {
			for _, static := range []bool{false, true} {
				owner, e := Field(p, class, name, d, static)
				wantOwner, wantE := m.field(class, api.Field{Name: name, Desc: d, Static: static})
				agree(t, "Field", []any{class, name, d, static}, []any{owner, e}, []any{wantOwner, wantE})
			}
			for _, op := range []int{api.New, api.Getstatic, api.Putstatic, api.Getfield, api.Putfield} {
				x := named(op, class, name, d)
				agree(t, "Initializes", x, []any{Initializes(p, x)}, []any{m.initializes(x)})
			}
		}
	}
}

func (m *model) agreeMethods(t *testing.T, p *link.Prog, class string) {
	t.Helper()
	for _, name := range append(methodNames(), "f", "pick", "") {
		for _, d := range append(methodDescs(), "()I", "") {
			owner, x, e := Method(p, class, name, d)
			wantOwner, wantX, wantE := m.anyMethod(class, name, d)
			agree(t, "Method", []any{class, name, d}, []any{owner, x, e}, []any{wantOwner, wantX, wantE})
			owner, x, ok := Dispatch(p, class, name, d)
			wantOwner, wantX, wantOk := m.dispatch(class, name, d)
			agree(t, "Dispatch", []any{class, name, d}, []any{owner, x, ok}, []any{wantOwner, wantX, wantOk})
			for _, op := range append(calls(), 0, api.New, api.Getfield, api.Getstatic, api.Return, api.Ops+1) {
				x := named(op, class, name, d)
				owner, found, e := Call(p, x)
				wantOwner, want, wantE := m.call(x)
				agree(t, "Call", x, []any{owner, found, e}, []any{wantOwner, want, wantE})
				agree(t, "Initializes", x, []any{Initializes(p, x)}, []any{m.initializes(x)})
			}
		}
	}
}

// P8.1 to P8.3: made-up programs against the model.
func TestMadeUpPrograms(t *testing.T) {
	for seed := range int64(150) {
		l, p := madeUp(t, seed)
		m := newModel(l)
		for _, class := range append(p.Names(), "", "None", "LObject;") {
			m.agreeFields(t, p, class)
			m.agreeMethods(t, p, class)
			agree(t, "Clinit", class, []any{Clinit(p, class)}, []any{m.clinit(class)})
		}
		if t.Failed() {
			t.Fatalf("seed %d: %+v", seed, l)
		}
	}
}

// P8.1 to P8.3: the samples against the model, asked for all names that stand in them.
func TestSamplesByModel(t *testing.T) {
	for _, l := range [][]api.Class{fieldSample(), methodSample()} {
		p, m := linked(t, l...), newModel(l)
		for _, class := range append(p.Names(), "", "None") {
			m.agreeFields(t, p, class)
			m.agreeMethods(t, p, class)
			for _, c := range m.classes {
				for _, f := range c.Fields {
					owner, e := Field(p, class, f.Name, f.Desc, f.Static)
					wantOwner, wantE := m.field(class, f)
					agree(t, "Field", []any{class, f}, []any{owner, e}, []any{wantOwner, wantE})
				}
				for _, x := range c.Methods {
					for _, op := range calls() {
						owner, found, e := Call(p, named(op, class, x.Name, x.Desc))
						wantOwner, want, wantE := m.call(named(op, class, x.Name, x.Desc))
						agree(t, "Call", []any{op, class, x.Name, x.Desc}, []any{owner, found, e}, []any{wantOwner, want, wantE})
					}
				}
			}
		}
	}
}

// P8.4: of a method that Callvirtual or Callinterface takes Dispatch tells, on each concrete class below, one that is
// there, neither abstract nor static, in one of that class's supers.
func TestDispatchOfTakenCalls(t *testing.T) {
	asked := 0
	for seed := range int64(400) {
		_, p := madeUp(t, seed)
		for _, class := range p.Names() {
			for _, name := range methodNames() {
				for _, d := range methodDescs() {
					_, _, one := Call(p, named(api.Callvirtual, class, name, d))
					_, _, other := Call(p, named(api.Callinterface, class, name, d))
					if one != api.OK && other != api.OK {
						continue
					}
					for _, sub := range slices.DeleteFunc(p.Subs(class), func(s string) bool { return !p.Concrete(s) }) {
						asked++
						owner, m, ok := Dispatch(p, sub, name, d)
						c, _ := p.Class(owner)
						if !ok || m.Abstract || m.Static || len(m.Code) == 0 || !slices.Contains(p.Supers(sub), owner) || !slices.ContainsFunc(c.Methods, func(x api.Method) bool { return reflect.DeepEqual(x, m) }) {
							t.Fatalf("seed %d: %q takes a call of %q %q, on %q that is %q, %+v, %v", seed, class, name, d, sub, owner, m, ok)
						}
					}
				}
			}
		}
	}
	if asked < 1000 {
		t.Errorf("only %d were asked", asked)
	}
}
