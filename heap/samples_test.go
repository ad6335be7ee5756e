package heap

import (
	"math"
	"reflect"
	"slices"
	"testing"

	"lantern/api"
)

const (
	least    = math.MinInt
	greatest = math.MaxInt
)

// What stands in a field or an element at first.
var (
	intZero = api.Value{Kind: api.VInt}
	cpxZero = api.Value{Kind: api.VCpx}
	null    = api.Value{Kind: api.VRef}
)

// bits is a value in a form that tells each bit of its parts.
type bits struct {
	kind, n int
	re, im  uint64
}

func bitsOf(v api.Value) bits {
	return bits{v.Kind, v.N, math.Float64bits(real(v.C)), math.Float64bits(imag(v.C))}
}

// alike tells whether two values are the same, bit by bit.
func alike(a, b api.Value) bool { return bitsOf(a) == bitsOf(b) }

// fields is an object's: by name, the value that stands there.
type fields map[string]api.Value

func (f fields) names() []string {
	l := []string{}
	for name := range f {
		l = append(l, name)
	}
	slices.Sort(l)
	return l
}

// sameTexts tells whether two lists are the same; nil and an empty one are.
func sameTexts(a, b []string) bool {
	return len(a) == len(b) && (len(a) == 0 || reflect.DeepEqual(a, b))
}

// thing is an object as the document has it: made by New, with fields; by Array, with elements.
type thing struct {
	of, site string
	array    bool
	fields   fields
	elems    []api.Value
}

// is asks the heap all that can be asked of the thing's number.
func (x thing) is(t *testing.T, h *Heap, ref int) {
	t.Helper()
	if h.Type(ref) != x.of || h.Site(ref) != x.site {
		t.Errorf("%d: type %q, site %q, want %q, %q", ref, h.Type(ref), h.Site(ref), x.of, x.site)
	}
	if got := h.Fields(ref); !sameTexts(got, x.fields.names()) {
		t.Errorf("%d: fields %q, want %q", ref, got, x.fields.names())
	}
	for name, want := range x.fields {
		if v, e := h.Get(ref, name); !alike(v, want) || e != api.OK {
			t.Errorf("%d: Get of %q is %v, %d, want %v", ref, name, v, e, want)
		}
	}
	if x.array {
		x.elements(t, h, ref)
		return
	}
	if h.Len(ref) != -1 {
		t.Errorf("%d: Len %d, want -1", ref, h.Len(ref))
	}
	noElements(t, h, ref)
}

func (x thing) elements(t *testing.T, h *Heap, ref int) {
	t.Helper()
	if h.Len(ref) != len(x.elems) {
		t.Errorf("%d: Len %d, want %d", ref, h.Len(ref), len(x.elems))
	}
	for i, want := range x.elems {
		if v, e := h.At(ref, i); !alike(v, want) || e != api.OK {
			t.Errorf("%d: At %d is %v, %d, want %v", ref, i, v, e, want)
		}
	}
	for _, i := range outside(len(x.elems)) {
		if v, e := h.At(ref, i); v != (api.Value{}) || e != api.ErrArg {
			t.Errorf("%d: At %d of %d is %v, %d, want ErrArg", ref, i, len(x.elems), v, e)
		}
	}
	noFields(t, h, ref)
}

// outside is numbers that are no place of an array of n.
func outside(n int) []int {
	return []int{least, least + 1, -1 << 32, -1 << 31, -n - 1, -2, -1, n, n + 1, 2*n + 1, 100, 101, 1 << 31, 1 << 32, greatest - 1, greatest}
}

// noElements: what is no array has no element, at whatever place.
func noElements(t *testing.T, h *Heap, ref int) {
	t.Helper()
	for _, i := range append(outside(1), 0, 1) {
		if v, e := h.At(ref, i); v != (api.Value{}) || e != api.ErrNone {
			t.Errorf("%d: At %d is %v, %d, want ErrNone", ref, i, v, e)
		}
		if e := h.Set(ref, i, api.Value{Kind: api.VRef, N: 9}); e != api.ErrNone {
			t.Errorf("%d: Set %d is %d, want ErrNone", ref, i, e)
		}
	}
}

// noFields: what is none, or an array, has no field, whatever its name.
func noFields(t *testing.T, h *Heap, ref int) {
	t.Helper()
	if l := h.Fields(ref); len(l) != 0 {
		t.Errorf("%d: fields %q, want none", ref, l)
	}
	for _, name := range strangers() {
		noField(t, h, ref, name)
	}
}

// noField: there is no such field.
func noField(t *testing.T, h *Heap, ref int, name string) {
	t.Helper()
	if v, e := h.Get(ref, name); v != (api.Value{}) || e != api.ErrNone {
		t.Errorf("%d: Get of %q is %v, %d, want ErrNone", ref, name, v, e)
	}
	if e := h.Put(ref, name, api.Value{Kind: api.VRef, N: 9}); e != api.ErrNone {
		t.Errorf("%d: Put of %q is %d, want ErrNone", ref, name, e)
	}
}

// nothing: there is no such object.
func nothing(t *testing.T, h *Heap, ref int) {
	t.Helper()
	thing{}.is(t, h, ref)
	noFields(t, h, ref)
}

// others is numbers that no object of n has.
func others(n int) []int {
	return []int{least, least + 1, -1 << 32, -1 << 31, -n - 1, -n, -1, 0, n + 1, n + 2, 1 << 31, 1<<32 + 1, greatest - 1, greatest}
}

// strangers are names that no object of these tests has, but where it says so.
func strangers() []string {
	return []string{"", "x", "X", "x:I", "x:", ":I", ":", "0", "1", "len", "A.x", "é", "\xff", "\x00"}
}

// made puts an object into the heap and tells whether its number is the next one.
func (x thing) made(t *testing.T, h *Heap, texts ...string) int {
	t.Helper()
	before := h.Count()
	ref := h.New(x.of, x.site, texts...)
	if ref != before+1 || h.Count() != ref {
		t.Fatalf("New(%q, %q, %q) is %d, behind %d objects; then there are %d", x.of, x.site, texts, ref, before, h.Count())
	}
	return ref
}

// arrayMade puts an array into the heap, likewise.
func arrayMade(t *testing.T, h *Heap, of, site string, n int) int {
	t.Helper()
	before := h.Count()
	ref, e := h.Array(of, site, n)
	if e != api.OK || ref != before+1 || h.Count() != ref {
		t.Fatalf("Array(%q, %q, %d) is %d, %d, behind %d objects; then there are %d", of, site, n, ref, e, before, h.Count())
	}
	return ref
}
