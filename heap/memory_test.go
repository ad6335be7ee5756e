package heap

import (
	"slices"
	"testing"
	"unsafe"

	"lantern/api"
)

// writable is a text whose bytes may be turned later.
func writable(s string) (string, []byte) {
	b := []byte(s)
	return unsafe.String(unsafe.SliceData(b), len(b)), b
}

// spoil turns each byte.
func spoil(b []byte) {
	for i := range b {
		b[i] = '#'
	}
}

// shares tells whether two texts have a byte of memory in common.
func shares(a, b string) bool {
	if a == "" || b == "" {
		return false
	}
	from := func(s string) uintptr { return uintptr(unsafe.Pointer(unsafe.StringData(s))) }
	return from(a) < from(b)+uintptr(len(b)) && from(b) < from(a)+uintptr(len(a))
}

// P9.3: the list of fields is not changed, its spare room neither.
func TestListStays(t *testing.T) {
	room := []string{"z:I", "a:C", "a:I", "b", "spare", "more"}
	before := slices.Clone(room)
	var h Heap
	h.New("LA;", "s", room[:4]...)
	h.Fields(1)
	h.Put(1, "a", api.Value{Kind: api.VRef, N: 4})
	if !slices.Equal(room, before) {
		t.Errorf("the list is turned: %q", room)
	}
}

// P9.3: the list of fields is not kept.
func TestListNotKept(t *testing.T) {
	l := []string{"z:I", "a:C", "b"}
	var h Heap
	x := thing{of: "LA;", site: "s", fields: fields{"z": intZero, "a": cpxZero, "b": null}}
	ref := x.made(t, &h, l...)
	for i := range l {
		l[i] = "q:C"
	}
	x.is(t, &h, ref)
	noField(t, &h, ref, "q")
}

// P9.3: nor are the texts that came in: their memory may be turned.
func TestTextsNotKept(t *testing.T) {
	var h Heap
	of, ofBytes := writable("LA;")
	site, siteBytes := writable("A.m()V@1")
	field, fieldBytes := writable("A.x:I")
	plain, plainBytes := writable("plain")
	array, arrayBytes := writable("[C")
	at, atBytes := writable("A.m()V@2")
	asked, askedBytes := writable("A.x")
	h.New(of, site, field, plain)
	if _, e := h.Array(array, at, 1); e != api.OK {
		t.Fatal(e)
	}
	v := api.Value{Kind: api.VInt, N: 3}
	if e := h.Put(1, asked, v); e != api.OK {
		t.Fatal(e)
	}
	for _, b := range [][]byte{ofBytes, siteBytes, fieldBytes, plainBytes, arrayBytes, atBytes, askedBytes} {
		spoil(b)
	}
	thing{of: "LA;", site: "A.m()V@1", fields: fields{"A.x": v, "plain": null}}.is(t, &h, 1)
	thing{of: "[C", site: "A.m()V@2", array: true, elems: []api.Value{cpxZero}}.is(t, &h, 2)
}

// P9.3: what Fields tells may be turned, its spare room too.
func TestFieldsAreNewMemory(t *testing.T) {
	var h Heap
	x := thing{of: "LA;", site: "s", fields: fields{"x": intZero, "y": cpxZero, "z": null}}
	ref := x.made(t, &h, "z", "y:C", "x:I")
	first, second := h.Fields(ref), h.Fields(ref)
	room := first[:cap(first)]
	for i := range room {
		room[i] = "bad"
	}
	if !slices.Equal(second, []string{"x", "y", "z"}) {
		t.Errorf("what was told is turned, and so is another answer: %q", second)
	}
	x.is(t, &h, ref)
	// Objects made behind it do not have what was laid there either.
	x.is(t, &h, x.made(t, &h, "x:I", "y:C", "z"))
}

// P9.3: texts that are told are apart from those that came in, and from each other.
func TestTextsAreNewMemory(t *testing.T) {
	of, site, text := "LA;", "A.m()V@1", "A.x:I"
	var h Heap
	h.New(of, site, text)
	for _, told := range []func() string{
		func() string { return h.Type(1) },
		func() string { return h.Site(1) },
		func() string { return h.Fields(1)[0] },
	} {
		a, b := told(), told()
		if a != b || shares(a, b) {
			t.Errorf("%q and %q share memory", a, b)
		}
		for _, in := range []string{of, site, text} {
			if shares(a, in) {
				t.Errorf("%q shares memory with what came in", a)
			}
		}
	}
}

// P9.3: values that are told are the heap's no more.
func TestValuesAreNewMemory(t *testing.T) {
	var h Heap
	h.New("LA;", "s", "x:I")
	arrayMade(t, &h, "[I", "s", 2)
	v, _ := h.Get(1, "x")
	w, _ := h.At(2, 1)
	v.N, w.N = 7, 8
	thing{of: "LA;", site: "s", fields: fields{"x": intZero}}.is(t, &h, 1)
	thing{of: "[I", site: "s", array: true, elems: []api.Value{intZero, intZero}}.is(t, &h, 2)
}
