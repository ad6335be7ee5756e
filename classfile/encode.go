package classfile

import (
	"lantern/api"
	"lantern/bytesio"
	"lantern/instr"
)

// mark is the bytes `SBC1`, as an I4.
const mark = 'S'<<24 | 'B'<<16 | 'C'<<8 | '1'

// Encode writes one.
func Encode(c api.Class) ([]byte, api.Errno) {
	if e := Check(c); e != api.OK {
		return nil, e
	}
	p := poolOf(c)
	w := encoder{place: p.place}
	w.out.I4(mark)
	w.out.U2(len(p.texts))
	for _, s := range p.texts {
		w.out.Text(s)
	}
	w.class(c)
	return w.out.Bytes(), api.OK
}

// encoder writes what Check lets through: no number of that is too great for its bytes.
type encoder struct {
	out   bytesio.Writer
	place map[string]int
}

func (w *encoder) class(c api.Class) {
	w.texts(c.Name, c.Super)
	w.yes(c.Interface)
	w.yes(c.Abstract)
	w.out.U2(len(c.Implements))
	w.texts(c.Implements...)
	w.out.U2(len(c.Fields))
	for _, f := range c.Fields {
		w.texts(f.Name, f.Desc)
		w.yes(f.Static)
	}
	w.out.U2(len(c.Methods))
	for _, m := range c.Methods {
		w.method(m)
	}
}

func (w *encoder) method(m api.Method) {
	w.texts(m.Name, m.Desc)
	w.yes(m.Static)
	w.yes(m.Abstract)
	w.out.U1(m.Stack).U1(m.Locals)
	w.out.U2(len(m.Code))
	for _, x := range m.Code {
		w.instruction(x)
	}
	w.out.U2(len(m.Handlers))
	for _, h := range m.Handlers {
		w.out.U2(h.From).U2(h.To).U2(h.At)
		w.texts(h.Class)
	}
}

func (w *encoder) instruction(x api.Instr) {
	has, _ := instr.Of(x.Op)
	w.out.U1(x.Op)
	if has.A {
		w.out.I4(x.A)
	}
	if has.B {
		w.out.I4(x.B)
	}
	w.texts(ownTexts(x)...)
}

// texts writes each as its place in the pool.
func (w *encoder) texts(l ...string) {
	for _, s := range l {
		w.out.U2(w.place[s])
	}
}

func (w *encoder) yes(is bool) {
	if is {
		w.out.U1(1)
		return
	}
	w.out.U1(0)
}
