package classfile

import (
	"encoding/binary"
	"slices"

	"lantern/api"
)

// opTexts are those that an instruction has, by the document's list of fields.
func opTexts(x api.Instr) []string {
	switch x.Op {
	case api.New:
		return []string{x.Class}
	case api.Newarray, api.Cast, api.Isinst:
		return []string{x.Desc}
	case api.Getfield, api.Putfield, api.Getstatic, api.Putstatic, api.Callstatic, api.Callspecial, api.Callvirtual, api.Callinterface:
		return []string{x.Class, x.Name, x.Desc}
	}
	return nil
}

// opNumbers are those that it has, likewise.
func opNumbers(x api.Instr) []int {
	switch x.Op {
	case api.Iconst, api.Load, api.Store, api.Goto, api.Ifzero, api.Ifnull, api.Ifsame:
		return []int{x.A}
	case api.Cconst:
		return []int{x.A, x.B}
	}
	return nil
}

// plainPool is the pool, by the document's words.
func plainPool(c api.Class) []string {
	all := append([]string{c.Name, c.Super}, c.Implements...)
	for _, f := range c.Fields {
		all = append(all, f.Name, f.Desc)
	}
	for _, m := range c.Methods {
		all = append(all, m.Name, m.Desc)
		for _, x := range m.Code {
			all = append(all, opTexts(x)...)
		}
		for _, h := range m.Handlers {
			all = append(all, h.Class)
		}
	}
	var once []string
	for _, s := range all {
		if !slices.Contains(once, s) {
			once = append(once, s)
		}
	}
	return once
}

// plain writes any class, by the document's words, with what a test puts in their place: a number that is too great for its bytes is cut.
type plain struct {
	pool  []string
	place func(s string) int
	yes   func(is bool) byte
	out   []byte
}

// plainly writes a class as it should be.
func plainly(c api.Class) *plain {
	w := &plain{pool: plainPool(c)}
	w.place = func(s string) int { return slices.Index(w.pool, s) }
	w.yes = func(is bool) byte {
		if is {
			return 1
		}
		return 0
	}
	return w
}

func (w *plain) u1(n int)      { w.out = append(w.out, byte(n)) }
func (w *plain) u2(n int)      { w.out = binary.BigEndian.AppendUint16(w.out, uint16(n)) }
func (w *plain) i4(n int)      { w.out = binary.BigEndian.AppendUint32(w.out, uint32(n)) }
func (w *plain) text(s string) { w.u2(w.place(s)) }
func (w *plain) flag(is bool)  { w.out = append(w.out, w.yes(is)) }

func (w *plain) bytes(c api.Class) []byte {
	w.out = []byte("SBC1")
	w.u2(len(w.pool))
	for _, s := range w.pool {
		w.u2(len(s))
		w.out = append(w.out, s...)
	}
	w.text(c.Name)
	w.text(c.Super)
	w.flag(c.Interface)
	w.flag(c.Abstract)
	w.u2(len(c.Implements))
	for _, s := range c.Implements {
		w.text(s)
	}
	w.u2(len(c.Fields))
	for _, f := range c.Fields {
		w.text(f.Name)
		w.text(f.Desc)
		w.flag(f.Static)
	}
	w.u2(len(c.Methods))
	for _, m := range c.Methods {
		w.method(m)
	}
	return w.out
}

func (w *plain) method(m api.Method) {
	w.text(m.Name)
	w.text(m.Desc)
	w.flag(m.Static)
	w.flag(m.Abstract)
	w.u1(m.Stack)
	w.u1(m.Locals)
	w.u2(len(m.Code))
	for _, x := range m.Code {
		w.u1(x.Op)
		for _, n := range opNumbers(x) {
			w.i4(n)
		}
		for _, s := range opTexts(x) {
			w.text(s)
		}
	}
	w.u2(len(m.Handlers))
	for _, h := range m.Handlers {
		w.u2(h.From)
		w.u2(h.To)
		w.u2(h.At)
		w.text(h.Class)
	}
}
