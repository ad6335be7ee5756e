package heap

import (
	"math/rand"
	"strings"
	"testing"

	"lantern/api"
)

// model is a heap by the document's words: a list of things.
type model struct{ things []thing }

func (m *model) at(ref int) thing {
	if ref < 1 || ref > len(m.things) {
		return thing{}
	}
	return m.things[ref-1]
}

func (m *model) zero(of string) api.Value {
	switch of {
	case "I":
		return intZero
	case "C":
		return cpxZero
	}
	return null
}

func (m *model) makes(of, site string, texts []string) int {
	x := thing{of: of, site: site, fields: fields{}}
	for _, text := range texts {
		parts := strings.Split(text, ":")
		last := len(parts) - 1
		if last == 0 {
			x.fields[text] = null
		} else {
			x.fields[strings.Join(parts[:last], ":")] = m.zero(parts[last])
		}
	}
	m.things = append(m.things, x)
	return len(m.things)
}

// array is of a type of which the model is told whether it is an array's.
func (m *model) array(of, site string, n int, is bool) (int, api.Errno) {
	if n < 0 || n > 100 || !is {
		return 0, api.ErrArg
	}
	x := thing{of: of, site: site, array: true}
	for range n {
		x.elems = append(x.elems, m.zero(of[1:]))
	}
	m.things = append(m.things, x)
	return len(m.things), api.OK
}

func (m *model) put(ref int, field string, v api.Value) api.Errno {
	x := m.at(ref)
	if _, has := x.fields[field]; !has {
		return api.ErrNone
	}
	x.fields[field] = v
	return api.OK
}

func (m *model) set(ref, i int, v api.Value) api.Errno {
	x := m.at(ref)
	if !x.array {
		return api.ErrNone
	}
	if i < 0 || i >= len(x.elems) {
		return api.ErrArg
	}
	x.elems[i] = v
	return api.OK
}

// pair is a heap and its model, on which the same is done.
type pair struct {
	h Heap
	m model
	r *rand.Rand
	t *testing.T
}

func (p *pair) ref() int {
	if p.r.Intn(8) == 0 {
		l := others(len(p.m.things))
		return l[p.r.Intn(len(l))]
	}
	return p.r.Intn(len(p.m.things)+2) - p.r.Intn(2)
}

func (p *pair) text(l ...string) string { return l[p.r.Intn(len(l))] }

func (p *pair) name() string {
	return p.text("x", "y", "A.x", "A.y", "B.x", "", ":", "a:b", "I")
}

func (p *pair) texts() []string {
	l := []string{}
	for range p.r.Intn(6) {
		l = append(l, p.name()+p.text("", ":I", ":C", ":LA;", ":[I", ":", ":x", ":V"))
	}
	return l
}

func (p *pair) value() api.Value {
	l := oddValues()
	return l[p.r.Intn(len(l))]
}

func (p *pair) step() {
	switch p.r.Intn(6) {
	case 0:
		of, site, texts := p.text("LA;", "LB;", "[I", ""), p.text("s", "A.m()V@1", ""), p.texts()
		if got, want := p.h.New(of, site, texts...), p.m.makes(of, site, texts); got != want {
			p.t.Errorf("New(%q, %q, %q) is %d, want %d", of, site, texts, got, want)
		}
	case 1:
		of, n := p.text("[I", "[C", "[LA;", "[[I", "[[C", "LA;", "I", "", "[V", "[[[[[I"), p.r.Intn(105)-2
		is := strings.HasPrefix(of, "[") && of != "[V" && of != "[[[[[I"
		got, e := p.h.Array(of, "at", n)
		want, f := p.m.array(of, "at", n, is)
		if got != want || e != f {
			p.t.Errorf("Array(%q, %d) is %d, %d, want %d, %d", of, n, got, e, want, f)
		}
	case 2, 3:
		ref, name, v := p.ref(), p.name(), p.value()
		if got, want := p.h.Put(ref, name, v), p.m.put(ref, name, v); got != want {
			p.t.Errorf("Put(%d, %q) is %d, want %d", ref, name, got, want)
		}
	case 4, 5:
		ref, i, v := p.ref(), p.r.Intn(104)-2, p.value()
		if got, want := p.h.Set(ref, i, v), p.m.set(ref, i, v); got != want {
			p.t.Errorf("Set(%d, %d) is %d, want %d", ref, i, got, want)
		}
	}
}

// P9.1, P9.2, P9.3: many steps, one behind the other, against the model.
func TestModel(t *testing.T) {
	for seed := range int64(60) {
		p := pair{r: rand.New(rand.NewSource(seed)), t: t}
		for range 120 {
			p.step()
		}
		if p.h.Count() != len(p.m.things) {
			t.Errorf("seed %d: there are %d objects, want %d", seed, p.h.Count(), len(p.m.things))
		}
		for i, x := range p.m.things {
			x.is(t, &p.h, i+1)
		}
		for _, ref := range others(len(p.m.things)) {
			nothing(t, &p.h, ref)
		}
		if t.Failed() {
			t.Fatalf("seed %d", seed)
		}
	}
}

// Asking changes nothing: the same answers twice, in whatever order they are asked.
func TestAskingChangesNothing(t *testing.T) {
	var h Heap
	x := thing{of: "LA;", site: "s", fields: fields{"x": intZero, "y": cpxZero}}
	x.made(t, &h, "x:I", "y:C")
	y := thing{of: "[C", site: "s", array: true, elems: []api.Value{cpxZero, cpxZero}}
	arrayMade(t, &h, "[C", "s", 2)
	for range 3 {
		y.is(t, &h, 2)
		x.is(t, &h, 1)
		nothing(t, &h, 0)
		nothing(t, &h, 3)
		if h.Count() != 2 {
			t.Errorf("there are %d objects", h.Count())
		}
	}
}
