package subtype

import (
	"fmt"
	"math/rand"
	"strings"
	"testing"

	"lantern/api"
	"lantern/link"
)

// model tells of types by the document's words, one after the other, from the classes as they were declared.
type model struct {
	classes map[string]api.Class
}

func newModel(l []api.Class) *model {
	m := &model{classes: map[string]api.Class{}}
	for _, c := range append(link.Builtin(), l...) {
		m.classes[c.Name] = c
	}
	return m
}

// split is how many `[` a type has, and its class; empty, if it has none.
func split(s string) (dims int, class string) {
	end := strings.TrimLeft(s, "[")
	if strings.HasPrefix(end, "L") && strings.HasSuffix(end, ";") {
		class = end[1 : len(end)-1]
	}
	return len(s) - len(end), class
}

func (m *model) known(s string) bool {
	dims, name := split(s)
	end := s[dims:]
	_, there := m.classes[name]
	return dims <= api.MaxDims && (end == "I" || end == "C" || there && end == "L"+name+";")
}

// class goes every way up.
func (m *model) class(sub, super string) bool {
	c, there := m.classes[sub]
	if !there {
		return false
	}
	if sub == super {
		return true
	}
	for _, next := range append([]string{c.Super}, c.Implements...) {
		if m.class(next, super) {
			return true
		}
	}
	return false
}

func (m *model) typ(sub, super string) bool {
	switch {
	case !m.known(sub) || !m.known(super):
		return false
	case sub == super:
		return true
	case sub[0] == 'L' && super[0] == 'L':
		return m.class(sub[1:len(sub)-1], super[1:len(super)-1])
	case sub[0] == '[' && super == "LObject;":
		return true
	case sub[0] == '[' && super[0] == '[':
		return m.ref(sub[1:]) && m.ref(super[1:]) && m.typ(sub[1:], super[1:])
	}
	return false
}

func (m *model) ref(s string) bool { return s[0] == 'L' || s[0] == '[' }

func (m *model) common(a, b string) string {
	x, one := m.classes[a]
	y, other := m.classes[b]
	switch {
	case !one || !other:
		return ""
	case a == b:
		return a
	case x.Interface || y.Interface:
		return "Object"
	}
	for s := a; s != ""; s = m.classes[s].Super {
		for r := b; r != ""; r = m.classes[r].Super {
			if s == r {
				return s
			}
		}
	}
	return ""
}

func (m *model) merge(a, b string) string {
	switch {
	case !m.known(a) || !m.known(b) || !m.ref(a) || !m.ref(b):
		return ""
	case a == b:
		return a
	case a[0] == 'L' && b[0] == 'L':
		return "L" + m.common(a[1:len(a)-1], b[1:len(b)-1]) + ";"
	case a[0] == '[' && b[0] == '[' && m.ref(a[1:]) && m.ref(b[1:]):
		return "[" + m.merge(a[1:], b[1:])
	}
	return "LObject;"
}

// program is made-up classes and interfaces: each leads only to some that were made ahead of it.
func program(r *rand.Rand) []api.Class {
	var l []api.Class
	supers, faces := []string{"Object", "Object", "Throwable", "MemEx"}, []string{"Task"}
	for i := range r.Intn(12) {
		name := fmt.Sprint([]string{"a", "I", "C", "L", "z", "Object"}[r.Intn(6)], i)
		var own []string
		for _, f := range faces {
			if r.Intn(4) == 0 {
				own = append(own, f)
			}
		}
		if r.Intn(3) == 0 {
			l = append(l, faceClass(name, own...))
			faces = append(faces, name)
			continue
		}
		l = append(l, abstract(name, supers[r.Intn(len(supers))], own...))
		supers = append(supers, name)
	}
	r.Shuffle(len(l), func(i, j int) { l[i], l[j] = l[j], l[i] })
	return l
}

// agree holds all that is told of two names and of two types against the model.
func (m *model) agree(t *testing.T, p *link.Prog, a, b string) {
	t.Helper()
	if got, want := Class(p, a, b), m.class(a, b); got != want {
		t.Errorf("Class(%q, %q) is %v", a, b, got)
	}
	if got, want := Common(p, a, b), m.common(a, b); got != want {
		t.Errorf("Common(%q, %q) is %q, want %q", a, b, got, want)
	}
}

func (m *model) agreeTypes(t *testing.T, p *link.Prog, a, b string) {
	t.Helper()
	if got, want := Known(p, a), m.known(a); got != want {
		t.Errorf("Known(%q) is %v", a, got)
	}
	if got, want := Type(p, a, b), m.typ(a, b); got != want {
		t.Errorf("Type(%q, %q) is %v", a, b, got)
	}
	if got, want := Merge(p, a, b), m.merge(a, b); got != want {
		t.Errorf("Merge(%q, %q) is %q, want %q", a, b, got, want)
	}
}

// P7.1 to P7.3: made-up programs, all pairs of their classes, and many of types, against the model.
func TestMadeUpPrograms(t *testing.T) {
	for seed := range 150 {
		r := rand.New(rand.NewSource(int64(seed)))
		l := program(r)
		p, m := linked(t, l...), newModel(l)
		names := append(p.Names(), "", "Q", "a99", "LObject;")
		for _, a := range names {
			for _, b := range names {
				m.agree(t, p, a, b)
			}
		}
		types := append(knownTypes(p), "", "V", "LQ;", "[[LQ;", "[V", "[[[[[I", "[[[[[LObject;", "L;", "LTask")
		for range 1000 {
			m.agreeTypes(t, p, types[r.Intn(len(types))], types[r.Intn(len(types))])
		}
		if t.Failed() {
			t.Fatalf("seed %d: %+v", seed, l)
		}
	}
}

// P7.1 to P7.3: all pairs of types of the sample against the model.
func TestSampleByModel(t *testing.T) {
	p, m := linked(t, sample()...), newModel(sample())
	types := append(knownTypes(p), "", "V", "LQ;", "[[LQ;")
	for _, a := range types {
		for _, b := range types {
			m.agreeTypes(t, p, a, b)
		}
	}
}

// P7.4: over the types of made-up programs, up to some number of `[`.
func TestMadeUpOrders(t *testing.T) {
	for seed := range 60 {
		r := rand.New(rand.NewSource(int64(1000 + seed)))
		p := linked(t, program(r)...)
		most := r.Intn(3)
		var some []string
		for _, s := range knownTypes(p) {
			if dims, _ := split(s); dims <= most {
				some = append(some, s)
			}
		}
		tableOf(t, p, some).order(t)
		tableOf(t, p, refs(some)).merges(t)
		if t.Failed() {
			t.Fatalf("seed %d", seed)
		}
	}
}
