package link

import (
	"fmt"
	"math/rand"
	"reflect"
	"slices"
	"testing"

	"lantern/api"
)

// model tells by tables of who leads to whom what the program is asked to tell by walks.
type model struct {
	l     []api.Class // the given ones ahead
	own   int         // from here on the others
	super [][]bool    // by one step or more
	face  [][]bool    // by one step or more, of Implements alone
}

func newModel(l []api.Class) *model {
	m := &model{l: append(given(), l...), own: len(given())}
	m.super = m.closure(func(a, b api.Class) bool { return a.Super == b.Name })
	m.face = m.closure(func(a, b api.Class) bool { return slices.Contains(a.Implements, b.Name) })
	return m
}

// closure is who leads to whom by any number of steps.
func (m *model) closure(step func(a, b api.Class) bool) [][]bool {
	n := len(m.l)
	out := make([][]bool, n)
	for i := range out {
		out[i] = make([]bool, n)
		for j := range out[i] {
			out[i][j] = step(m.l[i], m.l[j])
		}
	}
	for k := range n {
		for i := range n {
			for j := range n {
				out[i][j] = out[i][j] || out[i][k] && out[k][j]
			}
		}
	}
	return out
}

func (m *model) isSuper(i, j int) bool { return i == j || m.super[i][j] }

func (m *model) isFace(i, j int) bool {
	for k := range m.l {
		if m.isSuper(i, k) && m.face[k][j] {
			return true
		}
	}
	return false
}

// count is how many classes have that Name, and are so.
func (m *model) count(name string, so func(api.Class) bool) int {
	n := 0
	for _, c := range m.l {
		if c.Name == name && so(c) {
			n++
		}
	}
	return n
}

// breaks tells whether class i breaks a rule, all classes keeping those ahead of it.
func (m *model) breaks(rule, i int) bool {
	c := m.l[i]
	switch rule {
	case 0:
		return m.count(c.Name, func(api.Class) bool { return true }) != 1
	case 1:
		return c.Interface && c.Super != "Object" || c.Super == "Sys" || m.count(c.Super, func(d api.Class) bool { return !d.Interface }) == 0
	case 2:
		for _, s := range c.Implements {
			if m.count(s, func(d api.Class) bool { return d.Interface }) == 0 {
				return true
			}
		}
		for j := range c.Implements {
			for k := range j {
				if c.Implements[j] == c.Implements[k] {
					return true
				}
			}
		}
	case 3:
		return m.super[i][i] || m.face[i][i]
	case 4:
		return m.doubles(c)
	case 5:
		return c.Interface && m.noInterface(c)
	case 6:
		for _, x := range c.Methods {
			if !c.Abstract && x.Abstract {
				return true
			}
		}
	case 7:
		return !c.Abstract && m.unanswered(i)
	}
	return false
}

func (m *model) doubles(c api.Class) bool {
	names := map[string]int{}
	for _, f := range c.Fields {
		names["field "+f.Name]++
	}
	for _, x := range c.Methods {
		names["method "+x.Name+x.Desc]++
	}
	for _, n := range names {
		if n > 1 {
			return true
		}
	}
	return false
}

func (m *model) noInterface(c api.Class) bool {
	for _, f := range c.Fields {
		if !f.Static {
			return true
		}
	}
	for _, x := range c.Methods {
		if !x.Abstract && x.Name != "<clinit>" {
			return true
		}
	}
	return !c.Abstract
}

func (m *model) unanswered(i int) bool {
	need, has := map[string]bool{}, map[string]bool{}
	for j, d := range m.l {
		for _, x := range d.Methods {
			if x.Abstract && (m.isSuper(i, j) || m.isFace(i, j)) {
				need[x.Name+x.Desc] = true
			}
			if !x.Abstract && !x.Static && m.isSuper(i, j) {
				has[x.Name+x.Desc] = true
			}
		}
	}
	for k := range need {
		if !has[k] {
			return true
		}
	}
	return false
}

// fault is the first rule that any class breaks, and the first class that does; -1, if none does.
func (m *model) fault() (int, string) {
	for rule := range 8 {
		for i := m.own; i < len(m.l); i++ {
			if m.breaks(rule, i) {
				return rule, m.l[i].Name
			}
		}
	}
	return -1, ""
}

// view is what a program must tell of class i.
func (m *model) view(i int) view {
	c := m.l[i]
	v := view{Class: c, There: true, Concrete: !c.Interface && !c.Abstract}
	v.Supers = []string{c.Name}
	for super := c.Super; super != ""; {
		v.Supers = append(v.Supers, super)
		super = m.l[slices.IndexFunc(m.l, func(d api.Class) bool { return d.Name == super })].Super
	}
	for j, d := range m.l {
		if m.isFace(i, j) || i == j && d.Interface {
			v.Interfaces = append(v.Interfaces, d.Name)
		}
		if m.isSuper(j, i) || m.isFace(j, i) {
			v.Subs = append(v.Subs, d.Name)
		}
	}
	slices.Sort(v.Interfaces)
	slices.Sort(v.Subs)
	return v
}

// some is so many of l, one more than once at times.
func some(r *rand.Rand, n int, l ...string) []string {
	var out []string
	for range n {
		out = append(out, l[r.Intn(len(l))])
	}
	return out
}

// wild is classes that mostly go together.
func wild(r *rand.Rand) []api.Class {
	var classes, faces []string
	var l []api.Class
	odd := func() bool { return r.Intn(90) == 0 }
	for i := range 1 + r.Intn(9) {
		c := api.Class{Name: fmt.Sprint("c", i), Super: "Object", Abstract: r.Intn(2) == 0, Interface: r.Intn(3) == 0}
		if odd() {
			c.Name = some(r, 1, "c0", "c1", "Sys", "Task", "Object")[0]
		}
		if c.Interface {
			c.Abstract = !odd()
			faces = append(faces, c.Name)
		} else {
			c.Super = some(r, 1, append(classes, "Object", "NullEx")...)[0]
			classes = append(classes, c.Name)
		}
		if odd() {
			c.Super = some(r, 1, "c0", "c2", "c4", "c6", "Sys", "Task", "", "None")[0]
		}
		for _, s := range append(faces, "Task") {
			if r.Intn(5) == 0 && s != c.Name {
				c.Implements = append(c.Implements, s)
			}
		}
		if odd() {
			c.Implements = append(c.Implements, some(r, 1, "c1", "c3", "c5", "c7", "Sys", "Task", "None")...)
		}
		l = append(l, withMembers(r, c, odd))
	}
	if r.Intn(12) == 0 {
		bend(r, &l[r.Intn(len(l))], classes, faces)
	}
	r.Shuffle(len(l), func(i, j int) { l[i], l[j] = l[j], l[i] })
	return l
}

// bend lets a class lead to any other, which may make a ring.
func bend(r *rand.Rand, c *api.Class, classes, faces []string) {
	if c.Interface {
		c.Implements = some(r, 1, append(faces, "Task")...)
		return
	}
	c.Super = some(r, 1, append(classes, "Object")...)[0]
}

// withMembers gives a class fields and methods.
func withMembers(r *rand.Rand, c api.Class, odd func() bool) api.Class {
	for _, s := range []string{"x", "y"} {
		if r.Intn(2) == 0 {
			field(s, "I", c.Interface != odd())(&c)
		}
	}
	if odd() {
		field("x", "C", true)(&c)
	}
	for _, s := range []string{"f", "g", "run"} {
		for _, d := range []string{"()V", "(I)V"} {
			kind := r.Intn(8)
			switch {
			case c.Interface && kind < 2, c.Abstract && !c.Interface && kind < 2, odd():
				open(s, d)(&c)
			case !c.Interface && kind < 6, odd():
				code(s, d)(&c)
			case !c.Interface && kind < 7:
				static(s, d)(&c)
			}
		}
	}
	if odd() {
		open("f", "()V")(&c)
	}
	if r.Intn(4) == 0 {
		static("<clinit>", "()V")(&c)
	}
	return c
}

func TestAgainstModel(t *testing.T) {
	r := rand.New(rand.NewSource(6))
	met := map[int]int{}
	for range 4000 {
		l := wild(r)
		m := newModel(l)
		rule, name := m.fault()
		met[rule]++
		if rule >= 0 {
			refused(t, fmt.Sprintf("rule %d of %+v", rule, l), api.ErrLink, name, l...)
			continue
		}
		p := linked(t, l...)
		for i, c := range m.l {
			got, there := p.Class(c.Name)
			v := view{got, there, p.Concrete(c.Name), p.Supers(c.Name), p.Interfaces(c.Name), p.Subs(c.Name)}
			if want := m.view(i); !reflect.DeepEqual(v, want) {
				t.Fatalf("of %s in %+v:\n got %+v\nwant %+v", c.Name, l, v, want)
			}
		}
		r.Shuffle(len(l), func(i, j int) { l[i], l[j] = l[j], l[i] })
		if q := linked(t, l...); !reflect.DeepEqual(seen(q), seen(p)) {
			t.Fatalf("another program in another order of %+v", l)
		}
		if t.Failed() {
			break
		}
	}
	for rule := -1; rule < 8; rule++ {
		if met[rule] < 50 {
			t.Errorf("rule %d is met %d times only", rule, met[rule])
		}
	}
}
