package classfile

import (
	"bytes"

	"lantern/api"
	"lantern/bytesio"
	"lantern/instr"
)

// Decode reads one.
func Decode(b []byte) (api.Class, api.Errno, int) {
	var c api.Class
	var d decoder
	if len(b) > api.MaxFile {
		d.fail(api.ErrLimit, 0)
		goto end
	}
	d.in = bytesio.NewReader(b)
	if d.in.I4() != mark {
		d.fail(api.ErrForm, 0)
		goto end
	}
	d.pool = list(&d, api.MaxPool, d.in.Text)
	if d.failed() {
		goto end
	}
	c = d.class()
	if d.failed() {
		goto end
	}
	d.oneForm(c, b)
	if d.failed() {
		goto end
	}
	return c, api.OK, 0
end:
	return api.Class{}, d.e, d.at
}

// decoder reads a class. It keeps the first fault that it meets, and the place where that begins which has it.
type decoder struct {
	in   *bytesio.Reader
	pool []string
	e    api.Errno
	at   int
}

// failed tells whether a fault was met; that the bytes ended is one.
func (d *decoder) failed() bool {
	if d.e == api.OK {
		d.e, d.at = d.in.Err()
	}
	return d.e != api.OK
}

// fail keeps a fault, if it is the first: bytes that ended told a 0, and what is wrong with that is none.
func (d *decoder) fail(e api.Errno, at int) {
	if !d.failed() {
		d.e, d.at = e, at
	}
}

// must keeps what a check told of what begins at a place.
func (d *decoder) must(e api.Errno, at int) {
	if e != api.OK {
		d.fail(e, at)
	}
}

// oneForm looks whether b is what Encode tells of c: the pool may be another one, and something may stand behind the end.
func (d *decoder) oneForm(c api.Class, b []byte) {
	// All parts of c were checked as they were read, and its pool is no greater than the one that was read.
	again, _ := Encode(c)
	if !bytes.Equal(again, b) {
		d.fail(api.ErrForm, alike(again, b))
	}
}

// alike is how many bytes both begin with.
func alike(a, b []byte) int {
	n := 0
	for n < len(a) && n < len(b) && a[n] == b[n] {
		n++
	}
	return n
}

// list reads how many there are, at most so many, and each of them.
func list[T any](d *decoder, most int, read func() T) []T {
	var l []T
	for range d.count(most) {
		l = append(l, read())
		if d.failed() {
			goto end
		}
	}
	return l
end:
	return nil
}

// count reads how many there are; more than that is a fault, and none.
func (d *decoder) count(most int) int {
	at := d.in.At()
	n := d.in.U2()
	if n > most {
		goto end
	}
	return n
end:
	d.fail(api.ErrLimit, at)
	return 0
}

func (d *decoder) class() (c api.Class) {
	at := d.in.At()
	c.Name, c.Super = d.text(), d.text()
	c.Interface, c.Abstract = d.yes(), d.yes()
	c.Implements = list(d, api.MaxClasses, d.text)
	d.must(checkHead(c), at)
	if d.failed() {
		goto end
	}
	c.Fields = list(d, api.MaxFields, d.field)
	if d.failed() {
		goto end
	}
	c.Methods = list(d, api.MaxMethods, d.method)
end:
	return c
}

func (d *decoder) field() (f api.Field) {
	at := d.in.At()
	f.Name, f.Desc = d.text(), d.text()
	f.Static = d.yes()
	d.must(checkField(f), at)
	return f
}

func (d *decoder) method() (m api.Method) {
	at := d.in.At()
	m.Name, m.Desc = d.text(), d.text()
	m.Static, m.Abstract = d.yes(), d.yes()
	m.Stack, m.Locals = d.in.U1(), d.in.U1()
	m.Code = list(d, api.MaxCode, d.instruction)
	if d.failed() {
		goto end
	}
	m.Handlers = list(d, api.MaxHandlers, d.handler)
	d.must(checkMethod(m), at)
end:
	return m
}

func (d *decoder) instruction() (x api.Instr) {
	at := d.in.At()
	x.Op = d.in.U1()
	has, known := instr.Of(x.Op)
	if !known {
		d.fail(api.ErrTag, at)
		goto end
	}
	if has.A {
		x.A = d.in.I4()
	}
	if has.B {
		x.B = d.in.I4()
	}
	if has.Class {
		x.Class = d.text()
	}
	if has.Name {
		x.Name = d.text()
	}
	if has.Desc {
		x.Desc = d.text()
	}
end:
	return x
}

func (d *decoder) handler() (h api.Handler) {
	h.From, h.To, h.At = d.in.U2(), d.in.U2(), d.in.U2()
	h.Class = d.text()
	return h
}

// text reads the place of one in the pool.
func (d *decoder) text() string {
	at := d.in.At()
	n := d.in.U2()
	if n >= len(d.pool) {
		goto end
	}
	return d.pool[n]
end:
	d.fail(api.ErrIndex, at)
	return ""
}

// yes reads a 1, or a 0.
func (d *decoder) yes() bool {
	at := d.in.At()
	n := d.in.U1()
	if n > 1 {
		goto end
	}
	return n == 1
end:
	d.fail(api.ErrTag, at)
	return false
}
