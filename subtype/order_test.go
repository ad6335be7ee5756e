package subtype

import (
	"testing"

	"lantern/link"
)

// table is what is told of all pairs of types, by their numbers.
type table struct {
	types []string
	is    [][]bool
	merge [][]int // -1: empty
}

func tableOf(t *testing.T, p *link.Prog, types []string) *table {
	t.Helper()
	at := map[string]int{"": -1}
	for i, s := range types {
		at[s] = i
	}
	x := &table{types: types}
	for _, a := range types {
		var is []bool
		var merge []int
		for _, b := range types {
			is = append(is, Type(p, a, b))
			m, there := at[Merge(p, a, b)]
			if !there {
				t.Fatalf("Merge of %q and %q is %q, no type of the program", a, b, Merge(p, a, b))
			}
			merge = append(merge, m)
		}
		x.is, x.merge = append(x.is, is), append(x.merge, merge)
	}
	return x
}

// order asks that Type is an order: each is one of itself, no two are one of each other, and it carries over.
func (x *table) order(t *testing.T) {
	t.Helper()
	for i, a := range x.types {
		if !x.is[i][i] {
			t.Errorf("%q is not one of itself", a)
		}
		for j, b := range x.types {
			if i != j && x.is[i][j] && x.is[j][i] {
				t.Errorf("%q and %q are one of each other", a, b)
			}
			for k, c := range x.types {
				if x.is[i][j] && x.is[j][k] && !x.is[i][k] {
					t.Errorf("%q is one of %q, that of %q, but the first not of the last", a, b, c)
				}
			}
		}
	}
}

// merges asks that Merge of references is above both, the same the other way round, and, of three, in whatever order.
func (x *table) merges(t *testing.T) {
	t.Helper()
	for i, a := range x.types {
		if x.merge[i][i] != i {
			t.Errorf("Merge of %q and itself is another", a)
		}
		for j, b := range x.types {
			m := x.merge[i][j]
			if m < 0 || m != x.merge[j][i] {
				t.Errorf("Merge of %q and %q hangs on which is first, or is none", a, b)
				return
			}
			if !x.is[i][m] || !x.is[j][m] {
				t.Errorf("Merge of %q and %q is %q, not above both", a, b, x.types[m])
			}
			for k, c := range x.types {
				if x.merge[m][k] != x.merge[i][x.merge[j][k]] {
					t.Errorf("Merge of %q, %q and %q hangs on the order", a, b, c)
				}
			}
		}
	}
}

// P7.4: over all types of the sample.
func TestOrder(t *testing.T) {
	p := linked(t, sample()...)
	tableOf(t, p, knownTypes(p)).order(t)
	tableOf(t, p, refs(knownTypes(p))).merges(t)
}

// P7.4: three, in each of their orders, and in each way to go about it.
func TestMergeOfThree(t *testing.T) {
	p := linked(t, sample()...)
	for _, c := range []struct{ a, b, c, want string }{
		{"LLeaf;", "LMid;", "LSideLeaf;", "LBase;"}, {"LLeaf;", "LLeaf;", "LLeaf;", "LLeaf;"}, {"LLeaf;", "LMid;", "LF;", "LObject;"}, {"LF;", "LF;", "LF;", "LF;"}, {"LF;", "LF;", "LG;", "LObject;"}, {"LLeaf;", "LSide;", "LLone;", "LObject;"},
		{"[I", "[I", "[C", "LObject;"}, {"[[I", "[[C", "[[I", "[LObject;"}, {"[[I", "[[C", "[I", "LObject;"}, {"[LLeaf;", "[LMid;", "[LSide;", "[LBase;"}, {"[LLeaf;", "[[I", "[LF;", "[LObject;"}, {"[LLeaf;", "[I", "[LMid;", "LObject;"}, {"[LLeaf;", "LLeaf;", "[LMid;", "LObject;"},
		{"[[[[LLeaf;", "[[[[LSide;", "[[[[LMid;", "[[[[LBase;"}, {"[[[[I", "[[[[LLeaf;", "[[[[C", "[[[LObject;"}, {"[[[[I", "[[[LLeaf;", "[[LF;", "[[LObject;"}, {"LFault;", "LMemEx;", "LNullEx;", "LThrowable;"}, {"LI;", "[I", "LI;", "LObject;"},
		{"LLeaf;", "I", "LLeaf;", ""}, {"I", "I", "I", ""}, {"LLeaf;", "LQ;", "LLeaf;", ""}, {"LQ;", "LQ;", "LQ;", ""}, {"", "", "", ""}, {"[LQ;", "[I", "LObject;", ""},
	} {
		for _, o := range [][3]string{{c.a, c.b, c.c}, {c.a, c.c, c.b}, {c.b, c.a, c.c}, {c.b, c.c, c.a}, {c.c, c.a, c.b}, {c.c, c.b, c.a}} {
			left, right := Merge(p, Merge(p, o[0], o[1]), o[2]), Merge(p, o[0], Merge(p, o[1], o[2]))
			if left != c.want || right != c.want {
				t.Errorf("Merge of %q is %q and %q, want %q", o, left, right, c.want)
			}
		}
	}
}

// P7.3 and P7.4: among types that end in no interface Merge is the least that is above both.
func TestMergeLeast(t *testing.T) {
	p := linked(t, class("A", "Object"), class("B", "A"), class("C", "A"), class("D", "B"), class("E", "Object"))
	var l []string
	for _, s := range refs(knownTypes(p)) {
		if _, faces := byEnd(p, s); !faces {
			l = append(l, s)
		}
	}
	x := tableOf(t, p, l)
	for i, a := range l {
		for j, b := range l {
			for k, c := range l {
				if m := x.merge[i][j]; x.is[i][k] && x.is[j][k] && !x.is[m][k] {
					t.Errorf("Merge of %q and %q is %q, but %q is above both too", a, b, l[m], c)
				}
			}
		}
	}
}

// byEnd is the class at a type's end, and whether it is an interface.
func byEnd(p *link.Prog, s string) (string, bool) {
	_, name := split(s)
	c, _ := p.Class(name)
	return name, c.Interface
}
