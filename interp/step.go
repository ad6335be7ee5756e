package interp

import (
	"lantern/api"
	"lantern/instr"
	"lantern/number"
	"lantern/resolve"
)

// step does a step of a machine that runs.
func (m *Machine) step() {
	f := m.top()
	// At the entry's beginning its class comes first, ahead of what its instruction needs.
	if !m.begun && len(m.frames) == 1 {
		if !m.initialized(f.class) {
			return
		}
		m.begun = true
	}
	x, to, ok := m.fitting(f)
	if !ok {
		m.state = Stuck
		return
	}
	if m.initialized(resolve.Initializes(m.prog, x)) {
		m.do(f, x, to)
	}
}

// do does an instruction that fits, and that waits for no initialisation.
func (m *Machine) do(f *frame, x api.Instr, to target) {
	pops, _, _ := instr.Effect(x)
	v := f.taken(pops)
	switch x.Op {
	case api.Callstatic, api.Callspecial, api.Callvirtual, api.Callinterface:
		m.call(f, x, to, v)
		return
	case api.Return, api.Retval:
		m.leave(f, v)
		return
	}
	f.drop(pops)
	switch x.Op {
	case api.Goto, api.Ifzero, api.Ifnull, api.Ifsame:
		f.jump(x, v)
	case api.Idiv:
		m.divide(f, v)
	case api.New, api.Newarray:
		m.makes(f, x, v)
	case api.Getfield, api.Putfield, api.Getstatic, api.Putstatic:
		m.field(f, x, to.owner, v)
	case api.Aload, api.Astore, api.Alen:
		m.element(f, x, v)
	case api.Cast, api.Isinst:
		m.cast(f, x, v[0])
	case api.Throw:
		if v[0].N == 0 {
			goto null
		}
		m.throw(v[0].N)
	default:
		f.reckon(x, v)
	}
	return
null:
	m.raise(nullEx)
}

// jump goes elsewhere, or on.
func (f *frame) jump(x api.Instr, v []api.Value) {
	goes := true
	switch x.Op {
	case api.Ifzero, api.Ifnull:
		goes = v[0].N == 0
	case api.Ifsame:
		goes = v[0].N == v[1].N
	}
	if !goes {
		f.pc++
		return
	}
	f.pc = x.A
}

// reckon does what stays within the frame, and goes on behind it.
func (f *frame) reckon(x api.Instr, v []api.Value) {
	switch x.Op {
	case api.Iconst:
		f.lay(intOf(x.A))
	case api.Cconst:
		f.lay(cpxOf(number.Complex(x.A, x.B)))
	case api.Null:
		f.lay(refOf(0))
	case api.Load:
		f.lay(f.locals[x.A])
	case api.Store:
		f.locals[x.A] = v[0]
	case api.Dup:
		f.lay(v[0], v[0])
	case api.Swap:
		f.lay(v[1], v[0])
	case api.Iadd:
		f.lay(intOf(number.Add(v[0].N, v[1].N)))
	case api.Isub:
		f.lay(intOf(number.Sub(v[0].N, v[1].N)))
	case api.Imul:
		f.lay(intOf(number.Mul(v[0].N, v[1].N)))
	case api.Cadd:
		f.lay(cpxOf(number.CAdd(v[0].C, v[1].C)))
	case api.Cmul:
		f.lay(cpxOf(number.CMul(v[0].C, v[1].C)))
	case api.Cre:
		f.lay(intOf(number.Real(v[0].C)))
	}
	f.pc++
}
