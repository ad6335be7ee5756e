package heap

import (
	"math"
	"slices"
	"strings"
	"testing"

	"lantern/api"
)

// The chapter's example.
func TestExample(t *testing.T) {
	var h Heap
	if ref := h.New("LA;", "s", "x:I"); ref != 1 {
		t.Errorf("New is %d", ref)
	}
	if v, e := h.Get(1, "x"); v != intZero || e != api.OK {
		t.Errorf("Get is %v, %d", v, e)
	}
}

// fieldRow is a text that names a field, and what it says.
type fieldRow struct {
	text, name string
	zero       api.Value
}

func fieldRows() []fieldRow {
	return []fieldRow{
		{"x:I", "x", intZero}, {"x:C", "x", cpxZero}, {"x:LA;", "x", null}, {"x:[I", "x", null}, {"x:[C", "x", null}, {"x:[[[[LA;", "x", null},
		{"A.x:I", "A.x", intZero}, {"A.x:C", "A.x", cpxZero}, {"A.x:LI;", "A.x", null},
		// No `:`.
		{"x", "x", null}, {"I", "I", null}, {"C", "C", null}, {"", "", null}, {"A.x", "A.x", null}, {"[I", "[I", null},
		// More than one.
		{"a:b:I", "a:b", intZero}, {"a:I:C", "a:I", cpxZero}, {"a:I:x", "a:I", null}, {"a::I", "a:", intZero}, {"::C", ":", cpxZero}, {"a:b:c:d:I", "a:b:c:d", intZero}, {":::", "::", null},
		// Nothing ahead of it, nothing behind it.
		{":I", "", intZero}, {":C", "", cpxZero}, {":LA;", "", null}, {":", "", null}, {"x:", "x", null}, {"I:", "I", null}, {"a:I:", "a:I", null},
		// A type that is none.
		{"x:V", "x", null}, {"x:A", "x", null}, {"x:II", "x", null}, {"x:i", "x", null}, {"x:c", "x", null}, {"x: I", "x", null}, {"x:I ", "x", null}, {" x:I", " x", intZero}, {"x :C", "x ", cpxZero}, {"x:CI", "x", null}, {"x:[", "x", null}, {"x:LI", "x", null}, {"x:I\x00", "x", null},
		// Any bytes.
		{"é:I", "é", intZero}, {"\xff:C", "\xff", cpxZero}, {"\x00:I", "\x00", intZero}, {"x：I", "x：I", null}, {"x;I", "x;I", null}, {"世:界:I", "世:界", intZero},
	}
}

// P9.1: what each text of a field says.
func TestNewField(t *testing.T) {
	var h Heap
	for _, x := range fieldRows() {
		want := thing{of: "LA;", site: "s", fields: fields{x.name: x.zero}}
		ref := want.made(t, &h, x.text)
		want.is(t, &h, ref)
		for _, name := range append(strangers(), x.text) {
			if name != x.name {
				noField(t, &h, ref, name)
			}
		}
	}
}

// P9.1: objects with no fields, with some, and with one name in several texts, of which the last one counts.
func TestNewFields(t *testing.T) {
	var h Heap
	for _, x := range []struct {
		texts []string
		want  fields
	}{
		{nil, nil},
		{[]string{}, nil},
		{[]string{"x:I", "y:C", "z:LA;", "w:[I"}, fields{"x": intZero, "y": cpxZero, "z": null, "w": null}},
		{[]string{"x:I", "x:C"}, fields{"x": cpxZero}},
		{[]string{"x:C", "x:I"}, fields{"x": intZero}},
		{[]string{"x:C", "x:LA;"}, fields{"x": null}},
		{[]string{"x:LA;", "x:C"}, fields{"x": cpxZero}},
		{[]string{"x:I", "x"}, fields{"x": null}},
		{[]string{"x", "x:I"}, fields{"x": intZero}},
		{[]string{"x:I", "x:"}, fields{"x": null}},
		{[]string{"x:", "x:C"}, fields{"x": cpxZero}},
		{[]string{"x:I", "x:C", "x:I", "x:LA;", "x:C"}, fields{"x": cpxZero}},
		{[]string{"x:I", "x:I"}, fields{"x": intZero}},
		{[]string{"x:I", "y:C", "x:C", "y:I"}, fields{"x": cpxZero, "y": intZero}},
		{[]string{"b", "a:I", "B:C", "a"}, fields{"b": null, "a": null, "B": cpxZero}},
		{[]string{"A.x:I", "B.x:C", "x"}, fields{"A.x": intZero, "B.x": cpxZero, "x": null}},
		{[]string{"", ":I"}, fields{"": intZero}},
		{[]string{":I", ""}, fields{"": null}},
		{[]string{":", "::I", "x"}, fields{"": null, ":": intZero, "x": null}},
		{[]string{"x:I", "x:I:C"}, fields{"x": intZero, "x:I": cpxZero}},
	} {
		want := thing{of: "LA;", site: "s", fields: x.want}
		want.is(t, &h, want.made(t, &h, x.texts...))
	}
}

// P9.1: each order of the texts tells the same names, by bytes.
func TestFieldsByBytes(t *testing.T) {
	var h Heap
	want := []string{"", "\x00", "A", "A.x", "A:", "Aa", "B", "Z", "_", "a", "aa", "b", "é", "世", "\xff"}
	if !slices.IsSorted(want) {
		t.Fatal("the names are not by bytes")
	}
	texts := make([]string, len(want))
	for turn := range want {
		for _, back := range []bool{false, true} {
			for i, name := range want {
				texts[(i+turn)%len(want)] = name + ":I"
			}
			if back {
				slices.Reverse(texts)
			}
			ref := h.New("LA;", "s", texts...)
			if got := h.Fields(ref); !slices.Equal(got, want) {
				t.Errorf("New of %q has %q", texts, got)
			}
		}
	}
}

// P9.1: many fields.
func TestManyFields(t *testing.T) {
	var h Heap
	want, texts := fields{}, []string{}
	for i := range 3000 {
		name := strings.Repeat("f", i%7) + string(rune('a'+i%26)) + strings.Repeat("x", i%1000)
		texts = append(texts, name+":"+[]string{"I", "C", "LA;"}[i%3])
		want[name] = []api.Value{intZero, cpxZero, null}[i%3]
	}
	x := thing{of: "LA;", site: "s", fields: want}
	x.is(t, &h, x.made(t, &h, texts...))
}

// P9.1: types and sites are told as they came, whatever they are.
func TestTypeSite(t *testing.T) {
	texts := []string{"", "LA;", "A", "[I", "I", "V", "a.b", "A.m()V@3", "!NullEx", "fresh", "\xff", "\x00", "é", strings.Repeat("[", 5) + "I", strings.Repeat("x", 1000)}
	var h Heap
	for _, of := range texts {
		for _, site := range texts {
			x := thing{of: of, site: site, fields: fields{"x": intZero}}
			x.is(t, &h, x.made(t, &h, "x:I"))
		}
	}
	for i, of := range texts {
		for j, site := range texts {
			thing{of: of, site: site, fields: fields{"x": intZero}}.is(t, &h, i*len(texts)+j+1)
		}
	}
	for _, site := range texts {
		ref := arrayMade(t, &h, "[I", site, 1)
		thing{of: "[I", site: site, array: true, elems: []api.Value{intZero}}.is(t, &h, ref)
	}
}

// P9.1: what New makes has fields and is no array, though its type may be an array's.
func TestNewOfArrayType(t *testing.T) {
	var h Heap
	for _, of := range []string{"[I", "[C", "[LA;", "[[I", "[[[[I"} {
		x := thing{of: of, site: "s", fields: fields{"x": cpxZero}}
		x.is(t, &h, x.made(t, &h, "x:C"))
		empty := thing{of: of, site: "s"}
		empty.is(t, &h, empty.made(t, &h))
	}
}

// elemRow is an array's type, and what stands in its elements at first.
type elemRow struct {
	of   string
	zero api.Value
}

func elemRows() []elemRow {
	return []elemRow{
		{"[I", intZero}, {"[C", cpxZero}, {"[LA;", null}, {"[LI;", null}, {"[LC;", null}, {"[LObject;", null}, {"[[I", null}, {"[[C", null}, {"[[LA;", null}, {"[[[I", null}, {"[[[[I", null}, {"[[[[C", null}, {"[[[[LA;", null}, {"[L" + strings.Repeat("x", api.MaxName) + ";", null},
	}
}

// P9.1: arrays of each length and of each element type.
func TestArray(t *testing.T) {
	var h Heap
	for _, x := range elemRows() {
		for _, n := range []int{0, 1, 2, 3, 50, 99, 100} {
			ref := arrayMade(t, &h, x.of, "at", n)
			thing{of: x.of, site: "at", array: true, elems: slices.Repeat([]api.Value{x.zero}, n)}.is(t, &h, ref)
		}
	}
}

// refused: Array tells ErrArg and makes no object.
func refused(t *testing.T, h *Heap, of string, n int) {
	t.Helper()
	before := h.Count()
	if ref, e := h.Array(of, "at", n); ref != 0 || e != api.ErrArg {
		t.Errorf("Array(%.40q, %d) is %d, %d, want 0, ErrArg", of, n, ref, e)
	}
	if h.Count() != before {
		t.Errorf("Array(%.40q, %d) is refused; there are %d objects, ahead of it %d", of, n, h.Count(), before)
	}
}

// P9.1: arrays of too few or too many elements, and of a type that is no array's.
func TestArrayRefused(t *testing.T) {
	var h Heap
	first := thing{of: "LA;", site: "s", fields: fields{"x": intZero}}
	first.is(t, &h, first.made(t, &h, "x:I"))
	bad := []string{
		"", "I", "C", "V", "A", "LA;", "LI;", "[", "[[", "[[[[", "[V", "[A", "[L", "[L;", "[LA", "[LA;I", "[I[", "[I]", "[]I", " [I", "[I ", "[i", "[II", "[[[[[I", "[[[[[LA;", "[L9;", "[L<init>;", "[Lé;", "[L" + strings.Repeat("x", api.MaxName+1) + ";", "[\xff", "[\x00", "\x00[I", "()V", "x:[I", strings.Repeat("[", 1<<16) + "I",
	}
	for _, of := range bad {
		for _, n := range []int{0, 1, 100, 101, -1, least, greatest} {
			refused(t, &h, of, n)
		}
	}
	for _, x := range elemRows() {
		for _, n := range []int{least, least + 1, -1<<32 + 1, -1 << 31, -101, -100, -2, -1, 101, 102, 1000, 1 << 31, 1 << 32, 1<<32 + 1, greatest - 1, greatest} {
			refused(t, &h, x.of, n)
		}
	}
	first.is(t, &h, 1)
	nothing(t, &h, 2)
	// The next number is still the next one.
	arrayMade(t, &h, "[I", "at", 3)
}

// P9.1, P9.2: numbers of which there is no object.
func TestNoObject(t *testing.T) {
	var h Heap
	for n := range 5 {
		for _, ref := range others(n) {
			nothing(t, &h, ref)
		}
		if h.Count() != n {
			t.Errorf("there are %d objects, want %d", h.Count(), n)
		}
		if n%2 == 0 {
			h.New("LA;", "s", "x:I", "", "X", "0", "len")
		} else {
			arrayMade(t, &h, "[I", "s", 100)
		}
	}
}

// P9.2: a zero Heap has none; P9.1: its first object is 1.
func TestZeroHeap(t *testing.T) {
	for _, h := range []*Heap{new(Heap), {}} {
		if h.Count() != 0 {
			t.Errorf("a zero Heap has %d", h.Count())
		}
		for _, ref := range others(0) {
			nothing(t, h, ref)
		}
		for _, ref := range []int{1, 2, 3} {
			nothing(t, h, ref)
		}
		arrayMade(t, h, "[I", "s", 1)
	}
}

// P9.2: a nil Heap makes nothing and has nothing.
func TestNilHeap(t *testing.T) {
	var h *Heap
	for range 2 {
		if ref := h.New("LA;", "s", "x:I", "y"); ref != 0 {
			t.Errorf("New of a nil Heap is %d", ref)
		}
		if ref := h.New("", ""); ref != 0 {
			t.Errorf("New of a nil Heap is %d", ref)
		}
		for _, of := range []string{"[I", "[LA;", "LA;", ""} {
			for _, n := range []int{-1, 0, 1, 100, 101, least, greatest} {
				refused(t, h, of, n)
			}
		}
		for _, ref := range append(others(0), 1, 2) {
			nothing(t, h, ref)
		}
		if h.Count() != 0 {
			t.Errorf("a nil Heap has %d", h.Count())
		}
	}
}

// oddValues are values of each kind, of none, and with parts that belong to another kind.
func oddValues() []api.Value {
	l := []api.Value{
		{}, {Kind: api.VInt, N: 1}, {Kind: api.VInt, N: -1}, {Kind: api.VInt, N: 1<<31 - 1}, {Kind: api.VInt, N: -1 << 31}, {Kind: api.VInt, N: 1 << 31}, {Kind: api.VInt, N: least}, {Kind: api.VInt, N: greatest},
		{Kind: api.VRef}, {Kind: api.VRef, N: 1}, {Kind: api.VRef, N: 99}, {Kind: api.VRef, N: -1}, {Kind: api.VRef, N: greatest},
		{Kind: 3}, {Kind: -1, N: 7}, {Kind: least, N: greatest, C: 1i}, {Kind: greatest},
		{Kind: api.VInt, N: 3, C: 4 + 5i}, {Kind: api.VRef, N: 3, C: complex(math.NaN(), 1)}, {Kind: api.VCpx, N: 3, C: 1},
	}
	nans := []float64{math.NaN(), math.Float64frombits(0x7ff8000000000001), math.Float64frombits(0xfff8000000000000), math.Float64frombits(0xffffffffffffffff), math.Float64frombits(0x7ff80000deadbeef)}
	parts := append(nans, 0, math.Copysign(0, -1), 1, -1.5, math.Inf(1), math.Inf(-1), math.MaxFloat64, math.SmallestNonzeroFloat64, 1<<53+2)
	for _, re := range parts {
		for _, im := range parts {
			l = append(l, api.Value{Kind: api.VCpx, C: complex(re, im)})
		}
	}
	return l
}

// P9.2, P9.3: each value is got as it was put, bit by bit, whatever the field's type, and stays till another is put.
func TestPutGet(t *testing.T) {
	var h Heap
	h.New("LB;", "other", "x:I")
	x := thing{of: "LA;", site: "s", fields: fields{"x": intZero, "y": cpxZero, "z": null, "w": null, "": null}}
	ref := x.made(t, &h, "x:I", "y:C", "z:LA;", "w:[I", "")
	for _, name := range x.fields.names() {
		for _, v := range oddValues() {
			if e := h.Put(ref, name, v); e != api.OK {
				t.Errorf("Put of %q is %d", name, e)
			}
			x.fields[name] = v
			x.is(t, &h, ref)
		}
	}
	x.is(t, &h, ref)
	thing{of: "LB;", site: "other", fields: fields{"x": intZero}}.is(t, &h, 1)
}

// P9.2, P9.3: likewise of elements, at each place.
func TestSetAt(t *testing.T) {
	for _, row := range elemRows() {
		for _, n := range []int{1, 2, 5, 100} {
			var h Heap
			x := thing{of: row.of, site: "s", array: true, elems: slices.Repeat([]api.Value{row.zero}, n)}
			ref := arrayMade(t, &h, row.of, "s", n)
			odd := oddValues()
			for i := range n {
				x.elems[i] = odd[(i*7+n)%len(odd)]
				if e := h.Set(ref, i, x.elems[i]); e != api.OK {
					t.Errorf("Set %d of %d is %d", i, n, e)
				}
			}
			for _, i := range outside(n) {
				if e := h.Set(ref, i, api.Value{Kind: api.VRef, N: 9}); e != api.ErrArg {
					t.Errorf("Set %d of %d is %d", i, n, e)
				}
			}
			x.is(t, &h, ref)
		}
	}
	var h Heap
	arrayMade(t, &h, "[C", "s", 1)
	for _, v := range oddValues() {
		if e := h.Set(1, 0, v); e != api.OK {
			t.Errorf("Set is %d", e)
		}
		thing{of: "[C", site: "s", array: true, elems: []api.Value{v}}.is(t, &h, 1)
	}
}

// P9.2: an array of none has no place.
func TestArrayOfNone(t *testing.T) {
	var h Heap
	arrayMade(t, &h, "[I", "s", 0)
	for _, i := range append(outside(0), 0, 1) {
		if e := h.Set(1, i, intZero); e != api.ErrArg {
			t.Errorf("Set %d is %d", i, e)
		}
		if v, e := h.At(1, i); v != (api.Value{}) || e != api.ErrArg {
			t.Errorf("At %d is %v, %d", i, v, e)
		}
	}
	thing{of: "[I", site: "s", array: true}.is(t, &h, 1)
}

// P9.3: what is put into one object stands in no other, of one type, site and fields though they are.
func TestOthersStay(t *testing.T) {
	var h Heap
	l := []thing{}
	for range 20 {
		x := thing{of: "LA;", site: "s", fields: fields{"x": intZero, "y": null}}
		x.made(t, &h, "x:I", "y:LA;")
		l = append(l, x, thing{of: "[I", site: "s", array: true, elems: slices.Repeat([]api.Value{intZero}, 3)})
		arrayMade(t, &h, "[I", "s", 3)
	}
	for i, x := range l {
		v := api.Value{Kind: api.VInt, N: 100 + i}
		var e api.Errno
		if x.array {
			x.elems[i%3] = v
			e = h.Set(i+1, i%3, v)
		} else {
			x.fields["x"] = v
			e = h.Put(i+1, "x", v)
		}
		if e != api.OK {
			t.Errorf("%d: %d", i+1, e)
		}
		for j, y := range l {
			y.is(t, &h, j+1)
		}
	}
}

// P9.2: where there is neither such an object nor such a place, it is told that there is no object.
func TestFirstErrorCounts(t *testing.T) {
	var h Heap
	h.New("[I", "s", "0:I")
	for _, ref := range []int{0, 1, 2, -1} {
		for _, i := range []int{-1, 0, 1, 100, least, greatest} {
			if _, e := h.At(ref, i); e != api.ErrNone {
				t.Errorf("At(%d, %d) is %d", ref, i, e)
			}
			if e := h.Set(ref, i, intZero); e != api.ErrNone {
				t.Errorf("Set(%d, %d) is %d", ref, i, e)
			}
		}
	}
}

// Two heaps have nothing in common.
func TestHeapsApart(t *testing.T) {
	var g, h Heap
	g.New("LA;", "s", "x:I")
	nothing(t, &h, 1)
	h.New("LA;", "s", "x:I")
	g.Put(1, "x", api.Value{Kind: api.VInt, N: 5})
	thing{of: "LA;", site: "s", fields: fields{"x": intZero}}.is(t, &h, 1)
	arrayMade(t, &h, "[I", "s", 2)
	nothing(t, &g, 2)
}
