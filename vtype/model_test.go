package vtype

import (
	"fmt"
	"math/rand"
	"strings"
	"testing"

	"lantern/api"
	"lantern/link"
	"lantern/subtype"
)

// thing is a verification type taken apart as it is made up, so that the model need not read it.
type thing struct {
	text string
	kind byte // T, I, C, N; L of references, U of made ones, 0 of what may not be
}

// things is types of a program, and some that may not be.
func things(p *link.Prog) []thing {
	l := []thing{{"T", 'T'}, {"I", 'I'}, {"C", 'C'}, {"N", 'N'}, {"", 0}, {"V", 0}, {"LQ;", 0}, {"U3:LQ;", 0}, {"[LQ;", 0}}
	for _, s := range refsOf(p) {
		l = append(l, thing{s, 'L'})
	}
	for _, s := range madesOf(p) {
		l = append(l, thing{s, 'U'}, thing{"[" + s, 0}, thing{strings.Replace(s, "U", "U0", 1), 0})
	}
	return l
}

// fits is P11.1's sentence, word by word.
func fits(p *link.Prog, a, b thing) bool {
	if a.kind == 0 || b.kind == 0 {
		return false
	}
	return a.text == b.text || a.kind == 'N' && b.kind == 'L' || a.kind == 'L' && b.kind == 'L' && subtype.Type(p, a.text, b.text) || b.kind == 'T'
}

// merge is P11.2's.
func merge(p *link.Prog, a, b thing) string {
	kinds := string([]byte{a.kind, b.kind})
	switch {
	case strings.Contains(kinds, "\x00"):
		return ""
	case a.text == b.text:
		return a.text
	case kinds == "NL":
		return b.text
	case kinds == "LN":
		return a.text
	case kinds == "LL":
		return subtype.Merge(p, a.text, b.text)
	}
	return "T"
}

// join is P11.2's.
func join(p *link.Prog, a, b [2][]thing) (out [2][]string, ok bool) {
	for part := range a {
		if len(a[part]) != len(b[part]) {
			return [2][]string{}, false
		}
		for i := range a[part] {
			m := merge(p, a[part][i], b[part][i])
			if m == "" {
				return [2][]string{}, false
			}
			out[part] = append(out[part], m)
		}
	}
	return out, true
}

func texts(l []thing) []string {
	var out []string
	for _, x := range l {
		out = append(out, x.text)
	}
	return out
}

// program is made-up classes and interfaces: each leads only to some that were made ahead of it.
func program(r *rand.Rand) []api.Class {
	var l []api.Class
	supers, faces := []string{"Object", "Object", "MemEx"}, []string{"Task"}
	for i := range r.Intn(10) {
		name := fmt.Sprint([]string{"a", "I", "T", "N", "U", "L"}[r.Intn(6)], i)
		var own []string
		for _, f := range faces {
			if r.Intn(4) == 0 {
				own = append(own, f)
			}
		}
		if r.Intn(3) == 0 {
			l = append(l, faceClass(name, own...))
			faces = append(faces, name)
			continue
		}
		l = append(l, class(name, supers[r.Intn(len(supers))], own...))
		supers = append(supers, name)
	}
	return l
}

// P11.1 and P11.2: all pairs of types of the sample against the model.
func TestSampleByModel(t *testing.T) {
	p := linked(t, sample()...)
	l := things(p)
	for _, a := range l {
		if got := May(p, a.text); got != (a.kind != 0) {
			t.Errorf("May(%q) is %v", a.text, got)
		}
		for _, b := range l {
			agree(t, p, a, b)
		}
	}
}

func agree(t *testing.T, p *link.Prog, a, b thing) {
	t.Helper()
	if got, want := Fits(p, a.text, b.text), fits(p, a, b); got != want {
		t.Errorf("Fits(%q, %q) is %v", a.text, b.text, got)
	}
	if got, want := Merge(p, a.text, b.text), merge(p, a, b); got != want {
		t.Errorf("Merge(%q, %q) is %q, want %q", a.text, b.text, got, want)
	}
}

// P11.1, P11.2 and P11.4: made-up programs, pairs of their types, and States of them, against the model.
func TestMadeUpPrograms(t *testing.T) {
	for seed := range 100 {
		r := rand.New(rand.NewSource(int64(seed)))
		p := linked(t, program(r)...)
		l := things(p)
		for range 1500 {
			agree(t, p, l[r.Intn(len(l))], l[r.Intn(len(l))])
		}
		for range 100 {
			joined(t, p, r, l)
		}
		if t.Failed() {
			t.Fatalf("seed %d", seed)
		}
	}
}

// joined holds the Join of two made-up States against the model. Most of their types may be.
func joined(t *testing.T, p *link.Prog, r *rand.Rand, l []thing) {
	t.Helper()
	some := func(n int) []thing {
		var out []thing
		for range n {
			x := l[r.Intn(len(l))]
			for x.kind == 0 && r.Intn(30) > 0 {
				x = l[r.Intn(len(l))]
			}
			out = append(out, x)
		}
		return out
	}
	locals, stack := r.Intn(6), r.Intn(6)
	a, b := [2][]thing{some(locals), some(stack)}, [2][]thing{some(locals), some(stack)}
	if r.Intn(8) == 0 {
		b[r.Intn(2)] = some(r.Intn(6))
	}
	x, y := State{texts(a[0]), texts(a[1])}, State{texts(b[0]), texts(b[1])}
	got, e := Join(p, x, y)
	want, ok := join(p, a, b)
	if (e == api.OK) != ok || !ok && e != api.ErrCode || !Same(got, State{want[0], want[1]}) {
		t.Errorf("Join of %q and %q is %q, %d, want %q", x, y, got, e, want)
	}
	turned, f := Join(p, y, x)
	if f != e || !Same(turned, got) {
		t.Errorf("Join of %q and %q hangs on which is first", x, y)
	}
}
