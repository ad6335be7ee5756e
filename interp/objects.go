package interp

import (
	"slices"

	"lantern/api"
	"lantern/desc"
	"lantern/number"
	"lantern/subtype"
)

// What the machine throws of its own.
const (
	nullEx   = "NullEx"
	boundsEx = "BoundsEx"
	storeEx  = "StoreEx"
	castEx   = "CastEx"
	arithEx  = "ArithEx"
	memEx    = "MemEx"
	depthEx  = "DepthEx"
	initEx   = "InitEx"
)

// object is the class that arrays are taken for, where a class is asked for.
const object = "Object"

// divide does an Idiv.
func (m *Machine) divide(f *frame, v []api.Value) {
	q, ok := number.Div(v[0].N, v[1].N)
	if !ok {
		goto thrown
	}
	f.lay(intOf(q))
	f.pc++
	return
thrown:
	m.raise(arithEx)
}

// makes does what allocates.
func (m *Machine) makes(f *frame, x api.Instr, v []api.Value) {
	ex, ref := memEx, 0
	switch x.Op {
	case api.New:
		if !m.granted() {
			goto thrown
		}
		ref = m.heap.New(desc.Of(x.Class), f.site(), FieldsOf(m.prog, x.Class)...)
	case api.Newarray:
		if v[0].N < 0 || v[0].N > api.MaxArray {
			ex = boundsEx
			goto thrown
		}
		if !m.granted() {
			goto thrown
		}
		ref, _ = m.heap.Array(desc.Array(x.Desc), f.site(), v[0].N)
	}
	f.lay(refOf(ref))
	f.pc++
	return
thrown:
	m.raise(ex)
}

// granted counts an allocation, and tells whether the script lets it be.
func (m *Machine) granted() bool {
	m.made++
	_, refused := slices.BinarySearch(m.fails, m.made)
	return !refused
}

// field does what looks into a field, or puts something there.
func (m *Machine) field(f *frame, x api.Instr, owner string, v []api.Value) {
	switch x.Op {
	case api.Getfield:
		if v[0].N == 0 {
			goto thrown
		}
		got, _ := m.heap.Get(v[0].N, fieldName(owner, x.Name))
		f.lay(got)
	case api.Putfield:
		if v[0].N == 0 {
			goto thrown
		}
		m.heap.Put(v[0].N, fieldName(owner, x.Name), v[1])
	case api.Getstatic:
		f.lay(m.statics[place{owner, x.Name}])
	case api.Putstatic:
		m.statics[place{owner, x.Name}] = v[0]
	}
	f.pc++
	return
thrown:
	m.raise(nullEx)
}

// element does what looks into an array, or puts something there.
func (m *Machine) element(f *frame, x api.Instr, v []api.Value) {
	ref, ex := v[0].N, nullEx
	if ref == 0 {
		goto thrown
	}
	switch x.Op {
	case api.Alen:
		f.lay(intOf(m.heap.Len(ref)))
	case api.Aload:
		got, e := m.heap.At(ref, v[1].N)
		if e != api.OK {
			ex = boundsEx
			goto thrown
		}
		f.lay(got)
	case api.Astore:
		if _, e := m.heap.At(ref, v[1].N); e != api.OK {
			ex = boundsEx
			goto thrown
		}
		if !m.holds(ref, v[2]) {
			ex = storeEx
			goto thrown
		}
		m.heap.Set(ref, v[1].N, v[2])
	}
	f.pc++
	return
thrown:
	m.raise(ex)
}

// holds tells whether the value, which is of the Kind of the array's elements, may be one of them.
func (m *Machine) holds(array int, v api.Value) bool {
	elem, _ := desc.Elem(m.heap.Type(array))
	return v.Kind != api.VRef || v.N == 0 || m.is(v.N, elem)
}

// cast does what asks an object for its type.
func (m *Machine) cast(f *frame, x api.Instr, v api.Value) {
	is := v.N != 0 && m.is(v.N, x.Desc)
	if x.Op == api.Isinst {
		f.lay(yes(is))
		goto behind
	}
	if v.N != 0 && !is {
		goto thrown
	}
	f.lay(v)
behind:
	f.pc++
	return
thrown:
	m.raise(castEx)
}

// is tells whether the object is one of that type.
func (m *Machine) is(ref int, d string) bool {
	return subtype.Type(m.prog, m.heap.Type(ref), d)
}

// classOf is the object's class.
func (m *Machine) classOf(ref int) string {
	class := desc.Class(m.heap.Type(ref))
	if class == "" {
		return object
	}
	return class
}
