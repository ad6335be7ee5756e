package interp

import (
	"fmt"
	"testing"

	"lantern/api"
)

// P10.1: what New makes: its type, site, fields, and that its number is the next one.
func TestNewObject(t *testing.T) {
	b := class("B", "A", own("i", "C"), shared("s", "I"), own("z", "[C"))
	m := plain(t, main(code(nop, made("B"), keepRef, made("A"), pop, made("Object"), pop, made("NullEx"), pop, back)), sample(), b)
	ends(t, m, 0)
	h := m.Heap()
	same(t, "Count", h.Count(), 4)
	same(t, "o", keptRef(m), 1)
	var types, sites []string
	for ref := 1; ref <= 4; ref++ {
		types, sites = append(types, h.Type(ref)), append(sites, h.Site(ref))
	}
	same(t, "Types", types, []string{"LB;", "LA;", "LObject;", "LNullEx;"})
	same(t, "Sites", sites, []string{entry + "@1", entry + "@3", entry + "@5", entry + "@7"})
	same(t, "Fields", h.Fields(1), []string{"A.a", "A.c", "A.i", "A.l", "B.i", "B.z"})
	same(t, "Fields", h.Fields(2), []string{"A.a", "A.c", "A.i", "A.l"})
	same(t, "Fields", len(h.Fields(3))+len(h.Fields(4)), 0)
	for name, want := range map[string]api.Value{"A.a": vRef(0), "A.c": vCpx(0), "A.i": vInt(0), "A.l": vRef(0), "B.i": vCpx(0), "B.z": vRef(0)} {
		v, e := h.Get(1, name)
		same(t, name, []any{v, e}, []any{want, api.OK})
	}
}

// P10.1: a site is that of the method that runs, whoever called it, and of the class that has it.
func TestSites(t *testing.T) {
	a := class("A", "Object", virtual("f", "()V", nop, made("B"), keepRef, list(2, "I"), pop, back))
	b := class("B", "A")
	m := plain(t, main(code(made("B"), in(api.Callvirtual, "B", "f", "()V"), back)), a, b)
	ends(t, m, 0)
	same(t, "Site", []string{m.Heap().Site(2), m.Heap().Site(3)}, []string{"A.f()V@1", "A.f()V@4"})
}

// P10.1: what Newarray makes, of each length there may be.
func TestNewArray(t *testing.T) {
	for _, n := range []int{0, 1, 99, 100} {
		for elem, zero := range map[string]api.Value{"I": vInt(0), "C": vCpx(0), "LA;": vRef(0), "[I": vRef(0), "[[[LObject;": vRef(0)} {
			m := plain(t, main(code(list(n, elem), dup, keepRef, in(api.Alen), keep, back)), sample())
			ends(t, m, n)
			h, ref := m.Heap(), keptRef(m)
			same(t, "array", []any{ref, h.Type(ref), h.Site(ref), h.Len(ref), h.Count()}, []any{1, "[" + elem, entry + "@1", n, 1})
			for i := range n {
				v, _ := h.At(ref, i)
				same(t, "element", v, zero)
			}
		}
	}
}

// P10.1: lengths that no array has; nothing is allocated.
func TestNewArrayBounds(t *testing.T) {
	for _, n := range []int{-1, -100, 101, 1 << 20, -1 << 31, 1<<31 - 1} {
		m := plain(t, main(code(list(n, "I"), pop, back)))
		dies(t, m, "BoundsEx")
		shows(t, m, "throw M.main()V 1 BoundsEx")
		same(t, "Count", m.Heap().Count(), 1)
	}
}

// P10.1: fields are the owner's, by 8's Field: one of a super is reached by the name of each class below, unless that has its own.
func TestFields(t *testing.T) {
	b := class("B", "A", own("i", "I"))
	c := class("C", "B")
	put := func(class string, n int) []api.Instr {
		return code(in(api.Load, 0), num(n), in(api.Putfield, class, "i", "I"))
	}
	get := func(class string) []api.Instr {
		return code(in(api.Load, 0), in(api.Getfield, class, "i", "I"))
	}
	m := plain(t, main(code(made("C"), in(api.Store, 0), put("A", 1), put("B", 2), get("A"), get("B"), num(10), in(api.Imul), in(api.Iadd), get("C"), num(100), in(api.Imul), in(api.Iadd), keep, put("C", 3), back)), sample(), b, c)
	ends(t, m, 221)
	got := []api.Value{}
	for _, name := range []string{"A.i", "B.i"} {
		v, _ := m.Heap().Get(1, name)
		got = append(got, v)
	}
	same(t, "fields", got, []api.Value{vInt(1), vInt(3)})
}

// P10.1: a field of each Kind holds what was put there.
func TestFieldKinds(t *testing.T) {
	for _, c := range []struct {
		name, d string
		lay     []api.Instr
		want    api.Value
	}{
		{"i", "I", code(num(-9)), vInt(-9)},
		{"c", "C", code(in(api.Cconst, 2, -3)), vCpx(2 - 3i)},
		{"a", "LA;", code(in(api.Load, 0)), vRef(1)},
		{"a", "LA;", code(null), vRef(0)},
		{"l", "[I", list(3, "I"), vRef(2)},
	} {
		m := begun(t, api.Script{}, main(code(made("A"), in(api.Store, 0), in(api.Load, 0), c.lay, in(api.Putfield, "A", c.name, c.d), num(5), in(api.Load, 0), in(api.Getfield, "A", c.name, c.d), nop, back)), sample())
		m.Run(len(c.lay) + 7)
		values(t, c.name, last(t, m).Stack, []api.Value{vInt(5), c.want})
		v, e := m.Heap().Get(1, "A."+c.name)
		same(t, "Get", []any{v, e}, []any{c.want, api.OK})
	}
}

// P10.1: static fields begin as 3's Zero, hold what was put there, and are the owner's, too.
func TestStatics(t *testing.T) {
	face := face("F", shared("i", "I"), shared("only", "I"))
	b := class("B", "A", implements("F"), shared("i", "I"))
	prog := []api.Class{
		main(code(
			num(1), in(api.Putstatic, "A", "si", "I"), num(2), in(api.Putstatic, "B", "i", "I"), num(3), in(api.Putstatic, "F", "i", "I"),
			num(4), in(api.Putstatic, "B", "only", "I"), in(api.Cconst, 1, 2), in(api.Putstatic, "B", "sc", "C"),
			made("A"), in(api.Putstatic, "A", "sa", "LA;"), in(api.Getstatic, "B", "sa", "LA;"), keepRef, in(api.Getstatic, "F", "only", "I"), keep, back)),
		sample(), b, face,
	}
	m := begun(t, api.Script{}, prog...)
	for name, want := range map[string]api.Value{"si": vInt(0), "sc": vCpx(0), "sa": vRef(0)} {
		v, ok := m.Static("A", name)
		same(t, "Static", []any{v, ok}, []any{want, true})
	}
	m.Run(100)
	ends(t, m, 4)
	for _, c := range []struct {
		class, name string
		want        api.Value
		ok          bool
	}{
		{"A", "si", vInt(1), true}, {"B", "i", vInt(2), true}, {"F", "i", vInt(3), true}, {"F", "only", vInt(4), true}, {"A", "sc", vCpx(1 + 2i), true}, {"A", "sa", vRef(1), true}, {"M", "o", vRef(1), true},
		{"B", "si", api.Value{}, false}, {"B", "only", api.Value{}, false}, {"A", "i", api.Value{}, false}, {"Q", "i", api.Value{}, false}, {"", "", api.Value{}, false}, {"A.si", "", api.Value{}, false}, {"", "A.si", api.Value{}, false}, {"A", "Si", api.Value{}, false},
	} {
		v, ok := m.Static(c.class, c.name)
		same(t, fmt.Sprint("Static ", c.class, c.name), []any{v, ok}, []any{c.want, c.ok})
	}
}

// P10.1: elements of each Kind, at the first and the last place.
func TestElements(t *testing.T) {
	for _, c := range []struct {
		elem string
		lay  []api.Instr
		want api.Value
	}{
		{"I", code(num(8)), vInt(8)},
		{"C", code(in(api.Cconst, 1, 1)), vCpx(1 + 1i)},
		{"LA;", code(made("A")), vRef(2)},
		{"LA;", code(null), vRef(0)},
		{"[I", list(1, "I"), vRef(2)},
		{"LObject;", list(1, "I"), vRef(2)},
	} {
		for _, i := range []int{0, 2} {
			m := begun(t, api.Script{}, main(code(list(3, c.elem), in(api.Store, 0), in(api.Load, 0), num(i), c.lay, in(api.Astore), null, in(api.Load, 0), num(i), in(api.Aload), nop, back)), sample())
			m.Run(len(c.lay) + 10)
			values(t, c.elem, last(t, m).Stack, []api.Value{vRef(0), c.want})
			for j := range 3 {
				v, _ := m.Heap().At(1, j)
				want := api.Value{Kind: c.want.Kind}
				if i == j {
					want = c.want
				}
				same(t, "At", v, want)
			}
		}
	}
}

// P10.1: an index that is none of the places.
func TestIndexes(t *testing.T) {
	for _, n := range []int{0, 1, 3, 100} {
		for i, ok := range map[int]bool{-1: false, 0: n > 0, n - 1: n > 0, n: false, n + 1: false, -1 << 31: false, 1<<31 - 1: false} {
			get := plain(t, main(code(list(n, "I"), num(i), in(api.Aload), keep, back)))
			put := plain(t, main(code(list(n, "I"), num(i), num(7), in(api.Astore), back)))
			if ok {
				ends(t, get, 0)
				ends(t, put, 0)
				continue
			}
			dies(t, get, "BoundsEx")
			shows(t, get, "throw M.main()V 3 BoundsEx")
			dies(t, put, "BoundsEx")
			shows(t, put, "throw M.main()V 4 BoundsEx")
		}
	}
}

// P10.1: what may stand in an array of references.
func TestStores(t *testing.T) {
	classes := []api.Class{sample(), class("B", "A", implements("F")), face("F")}
	for _, c := range []struct {
		elem string
		lay  []api.Instr
		ok   bool
	}{
		{"LA;", code(made("A")), true}, {"LA;", code(made("B")), true}, {"LB;", code(made("A")), false}, {"LB;", code(null), true},
		{"LObject;", code(made("A")), true}, {"LObject;", list(1, "C"), true}, {"LF;", code(made("B")), true}, {"LF;", code(made("A")), false}, {"LF;", code(null), true},
		{"LA;", list(1, "LA;"), false}, {"[LA;", list(1, "LA;"), true}, {"[LA;", list(1, "LB;"), true}, {"[LB;", list(1, "LA;"), false}, {"[LObject;", list(1, "LA;"), true}, {"[LObject;", list(1, "I"), false},
		{"[I", list(1, "I"), true}, {"[I", list(1, "C"), false}, {"[I", code(null), true}, {"[I", code(made("A")), false}, {"[[LObject;", list(1, "[LA;"), true}, {"[LObject;", list(1, "[I"), true},
	} {
		l := code(list(2, c.elem), num(1), c.lay, in(api.Astore), back)
		m := plain(t, append(classes, main(l))...)
		if c.ok {
			ends(t, m, 0)
			continue
		}
		dies(t, m, "StoreEx")
		shows(t, m, fmt.Sprint("throw M.main()V ", len(l)-2, " StoreEx"))
	}
}

// P10.1: null comes ahead of the bounds, and these ahead of what may stand there.
func TestStoreOrder(t *testing.T) {
	dies(t, plain(t, main(code(null, num(7), made("Object"), in(api.Astore), back))), "NullEx")
	dies(t, plain(t, main(code(list(2, "LM;"), num(2), made("Object"), in(api.Astore), back))), "BoundsEx")
	m := plain(t, main(code(list(2, "LM;"), keepRef, in(api.Getstatic, "M", "o", "LObject;"), num(1), made("Object"), in(api.Astore), back)))
	dies(t, m, "StoreEx")
	v, _ := m.Heap().At(keptRef(m), 1)
	same(t, "element", v, vRef(0))
}

// P10.1: null, where an object is wanted.
func TestNull(t *testing.T) {
	for _, l := range [][]api.Instr{
		code(null, in(api.Getfield, "A", "i", "I")),
		code(null, num(3), in(api.Putfield, "A", "i", "I")),
		code(null, null, in(api.Putfield, "A", "a", "LA;")),
		code(null, num(0), in(api.Aload)),
		code(null, num(-1), in(api.Aload)),
		code(null, num(0), num(1), in(api.Astore)),
		code(null, num(0), null, in(api.Astore)),
		code(null, num(0), in(api.Cconst, 1, 1), in(api.Astore)),
		code(null, in(api.Alen)),
		code(null, throw),
		code(null, in(api.Callspecial, "A", "<init>", "()V")),
		code(null, in(api.Callvirtual, "A", "f", "()V")),
		code(null, num(3), in(api.Callvirtual, "A", "g", "(I)V")),
		code(null, in(api.Callinterface, "Task", "run", "()V")),
	} {
		a := sample()
		virtual("g", "(I)V", back)(&a)
		virtual("f", "()V", back)(&a)
		m := plain(t, main(code(l, back)), a)
		dies(t, m, "NullEx")
		shows(t, m, fmt.Sprint("throw M.main()V ", len(l)-1, " NullEx"))
	}
}

// askRow is code that lays a reference, a type, and whether what lies there is one of it.
type askRow struct {
	lay []api.Instr
	d   string
	is  bool
}

func askRows() []askRow {
	return []askRow{
		{code(made("A")), "LA;", true}, {code(made("B")), "LA;", true}, {code(made("A")), "LB;", false}, {code(made("A")), "LObject;", true}, {code(made("B")), "LF;", true}, {code(made("A")), "LF;", false}, {code(made("B")), "LG;", true},
		{code(made("A")), "[LA;", false}, {code(made("A")), "[I", false}, {list(1, "I"), "[I", true}, {list(1, "I"), "[C", false}, {list(1, "I"), "LObject;", true}, {list(1, "I"), "[LObject;", false}, {list(1, "I"), "LA;", false},
		{list(0, "LB;"), "[LA;", true}, {list(0, "LA;"), "[LB;", false}, {list(0, "LB;"), "[LG;", true}, {list(0, "[I"), "[LObject;", true}, {list(0, "[I"), "[[I", true}, {list(0, "[I"), "LObject;", true}, {list(0, "[[LB;"), "[[[LA;", true},
		{code(made("NullEx")), "LThrowable;", true}, {code(made("Throwable")), "LNullEx;", false},
	}
}

// P10.1: Cast and Isinst of what is one of the type, of what is not, and of null.
func TestCasts(t *testing.T) {
	classes := []api.Class{sample(), class("B", "A", implements("F")), face("F", implements("G")), face("G")}
	for _, r := range askRows() {
		place := len(r.lay)
		m := plain(t, append(classes, main(code(r.lay, in(api.Isinst, r.d), num(10), in(api.Iadd), keep, back)))...)
		want := 10
		if r.is {
			want = 11
		}
		ends(t, m, want)
		m = plain(t, append(classes, main(code(r.lay, in(api.Cast, r.d), keepRef, back)))...)
		if r.is {
			ends(t, m, 0)
			same(t, "o", keptRef(m), 1)
			continue
		}
		dies(t, m, "CastEx")
		shows(t, m, fmt.Sprint("throw M.main()V ", place, " CastEx"))
	}
	for _, d := range []string{"LA;", "LF;", "LObject;", "[I", "[[LB;"} {
		m := begun(t, api.Script{}, append(classes, main(code(num(6), null, in(api.Isinst, d), null, in(api.Cast, d), nop, back)))...)
		m.Run(5)
		values(t, d, last(t, m).Stack, []api.Value{vInt(6), vInt(0), vRef(0)})
	}
}
