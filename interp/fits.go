package interp

import (
	"lantern/api"
	"lantern/desc"
	"lantern/instr"
	"lantern/number"
	"lantern/resolve"
)

// whatever is no Kind: it stands where any may come.
const whatever = -1

// target is what an instruction's names lead to.
type target struct {
	owner  string
	method api.Method // of a call
}

// fitting is the instruction at the frame's place, what its names lead to, and whether the machine can do it.
func (m *Machine) fitting(f *frame) (x api.Instr, to target, ok bool) {
	if f.pc >= len(f.method.Code) {
		return api.Instr{}, target{}, false
	}
	x = f.method.Code[f.pc]
	to, ok = m.led(x)
	ok = ok && m.room(f, x) && m.kinds(f, x) && m.reaches(f, x, to)
	return x, to, ok
}

// led follows the instruction's names, and tells whether they lead anywhere.
func (m *Machine) led(x api.Instr) (to target, ok bool) {
	e := api.OK
	switch x.Op {
	case api.New:
		return target{owner: x.Class}, m.prog.Concrete(x.Class)
	case api.Getfield, api.Putfield:
		to.owner, e = resolve.Field(m.prog, x.Class, x.Name, x.Desc, false)
	case api.Getstatic, api.Putstatic:
		to.owner, e = resolve.Field(m.prog, x.Class, x.Name, x.Desc, true)
	case api.Callstatic, api.Callspecial, api.Callvirtual, api.Callinterface:
		to.owner, to.method, e = resolve.Call(m.prog, x)
	}
	return to, e == api.OK
}

// room tells whether there is what the instruction takes, and room for what it lays.
func (m *Machine) room(f *frame, x api.Instr) bool {
	pops, pushes, e := instr.Effect(x)
	height := len(f.stack) - pops
	switch {
	case e != api.OK, height < 0, height+pushes > f.method.Stack:
		return false
	case x.Op == api.Load, x.Op == api.Store:
		return f.has(x.A)
	case x.Op == api.Retval:
		return m.roomBelow(f)
	}
	return true
}

// roomBelow tells whether the frame below has room for what f would tell: a Retval may stand where its call asked for nothing.
func (m *Machine) roomBelow(f *frame) bool {
	if f.role != called || len(m.frames) < 2 {
		return true
	}
	below := m.frames[len(m.frames)-2]
	return len(below.stack) < below.method.Stack
}

// kinds tells whether the values that the instruction takes are of the Kinds that it wants.
func (m *Machine) kinds(f *frame, x api.Instr) bool {
	wants := m.wants(f, x)
	for i, v := range f.taken(len(wants)) {
		if wants[i] != whatever && wants[i] != v.Kind {
			return false
		}
	}
	return true
}

// wants is the Kinds that the instruction wants, the top one last; none, if it takes nothing, or whatever there is.
func (m *Machine) wants(f *frame, x api.Instr) []int {
	switch x.Op {
	case api.Iadd, api.Isub, api.Imul, api.Idiv:
		return []int{api.VInt, api.VInt}
	case api.Cadd, api.Cmul:
		return []int{api.VCpx, api.VCpx}
	case api.Cre:
		return []int{api.VCpx}
	case api.Ifzero, api.Newarray:
		return []int{api.VInt}
	case api.Ifnull, api.Getfield, api.Alen, api.Cast, api.Isinst, api.Throw:
		return []int{api.VRef}
	case api.Ifsame:
		return []int{api.VRef, api.VRef}
	case api.Putfield:
		return []int{api.VRef, kindOf(x.Desc)}
	case api.Putstatic:
		return []int{kindOf(x.Desc)}
	case api.Aload:
		return []int{api.VRef, api.VInt}
	case api.Astore:
		return []int{api.VRef, api.VInt, m.kindWithin(f.taken(3)[0])}
	case api.Retval:
		return []int{kindTold(f.method.Desc)}
	case api.Callstatic, api.Callspecial, api.Callvirtual, api.Callinterface:
		return kindsCalled(x)
	}
	return nil
}

// kindOf is the Kind of a type's values.
func kindOf(d string) int { return number.Zero(d).Kind }

// kindWithin is the Kind of an array's elements; of null there is none to want.
func (m *Machine) kindWithin(array api.Value) int {
	elem, ok := desc.Elem(m.heap.Type(array.N))
	if !ok {
		return whatever
	}
	return kindOf(elem)
}

// kindTold is the Kind of what a method of that type tells.
func kindTold(d string) int {
	_, result, _ := desc.Method(d)
	if result == "V" {
		return whatever
	}
	return kindOf(result)
}

// kindsCalled is the Kinds of the receiver, if there is one, and of the parameters.
func kindsCalled(x api.Instr) []int {
	var l []int
	if x.Op != api.Callstatic {
		l = append(l, api.VRef)
	}
	params, _, _ := desc.Method(x.Desc)
	for _, d := range params {
		l = append(l, kindOf(d))
	}
	return l
}

// reaches tells whether the object that the instruction looks into has what it looks for there; null is looked at later.
func (m *Machine) reaches(f *frame, x api.Instr, to target) bool {
	pops, _, _ := instr.Effect(x)
	switch x.Op {
	case api.Getfield, api.Putfield:
		ref := f.taken(pops)[0].N
		_, e := m.heap.Get(ref, fieldName(to.owner, x.Name))
		return ref == 0 || e == api.OK
	case api.Aload, api.Astore, api.Alen:
		ref := f.taken(pops)[0].N
		return ref == 0 || m.heap.Len(ref) >= 0
	}
	return true
}
