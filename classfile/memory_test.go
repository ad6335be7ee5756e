package classfile

import (
	"bytes"
	"reflect"
	"slices"
	"testing"

	"lantern/api"
)

// roomy is c in lists with spare room, in which something stands.
func roomy(c api.Class) api.Class {
	c.Implements = withRoom(c.Implements, "spare")
	c.Fields = withRoom(c.Fields, api.Field{Name: "spare"})
	c.Methods = withRoom(c.Methods, api.Method{Name: "spare"})
	for i := range c.Methods {
		c.Methods[i].Code = withRoom(c.Methods[i].Code, api.Instr{Op: 99})
		c.Methods[i].Handlers = withRoom(c.Methods[i].Handlers, api.Handler{From: 99})
	}
	return c
}

func withRoom[T any](l []T, spare T) []T {
	return append(slices.Clone(l), spare, spare)[:len(l)]
}

// open is c with its lists' spare room shown.
func open(c api.Class) api.Class {
	c = deep(api.Class{Name: c.Name, Super: c.Super, Interface: c.Interface, Abstract: c.Abstract,
		Implements: c.Implements[:cap(c.Implements)], Fields: c.Fields[:cap(c.Fields)], Methods: c.Methods[:cap(c.Methods)]})
	for i, m := range c.Methods {
		c.Methods[i].Code = slices.Clone(m.Code[:cap(m.Code)])
		c.Methods[i].Handlers = slices.Clone(m.Handlers[:cap(m.Handlers)])
	}
	return c
}

// spoil writes over all that c has, its lists' spare room too.
func spoil(c api.Class) {
	for _, m := range c.Methods[:cap(c.Methods)] {
		fill(m.Code, api.Instr{Op: 77, Class: "spoilt"})
		fill(m.Handlers, api.Handler{From: 77, Class: "spoilt"})
	}
	fill(c.Implements, "spoilt")
	fill(c.Fields, api.Field{Name: "spoilt"})
	fill(c.Methods, api.Method{Name: "spoilt"})
}

func fill[T any](l []T, x T) {
	l = l[:cap(l)]
	for i := range l {
		l[i] = x
	}
}

func TestHandedInStays(t *testing.T) {
	for _, c := range []api.Class{least(), full(), littered(full()), face(), filled(), {}, {Methods: []api.Method{{Name: "9", Code: []api.Instr{{Op: -1}}}}}} {
		given := roomy(deep(c))
		before := open(given)
		Check(given)
		b, _ := Encode(given)
		pool := Pool(given)
		Same(given, given)
		if !reflect.DeepEqual(open(given), before) {
			t.Errorf("P5.5: a class that was handed in was changed: %v", given)
		}
		bytesBefore, poolBefore := slices.Clone(b), slices.Clone(pool)
		spoil(given)
		if !bytes.Equal(b, bytesBefore) || !slices.Equal(pool, poolBefore) {
			t.Error("P5.5: what was answered has memory of what was handed in")
		}
	}
	b, _ := Encode(full())
	room := append(slices.Clone(b), 7, 7, 7)
	c, e, _ := Decode(room[:len(b)])
	if e != api.OK || !bytes.Equal(room, append(slices.Clone(b), 7, 7, 7)) {
		t.Errorf("P5.5: bytes that were handed in were changed, or their spare room was read: %d", e)
	}
	clear(room)
	if !Same(c, full()) {
		t.Error("P5.5: bytes that were handed in were kept")
	}
}

func TestAnswersAreNew(t *testing.T) {
	c := full()
	b, _ := Encode(c)
	want := slices.Clone(b)
	fill(b, 99)
	if again, _ := Encode(c); !bytes.Equal(again, want) {
		t.Error("P5.5: two answers of Encode share memory")
	}
	pool := Pool(c)
	fill(pool, "spoilt")
	if !slices.Equal(Pool(c), plainPool(c)) {
		t.Error("P5.5: two answers of Pool share memory")
	}
	first, _, _ := Decode(want)
	second, _, _ := Decode(want)
	spoil(first)
	if !Same(second, c) {
		t.Error("P5.5: two answers of Decode share memory")
	}
}

// Each list of an answer is its own: what is laid into the spare room of one is in no other.
func TestListsApart(t *testing.T) {
	c := full()
	c.Methods = append(c.Methods, c.Methods[plainOne], c.Methods[staticOne])
	b, e := Encode(c)
	if e != api.OK {
		t.Fatal(e)
	}
	for at := range c.Methods {
		got, _, _ := Decode(b)
		fill(got.Methods[at].Code, api.Instr{Op: 77})
		fill(got.Methods[at].Handlers, api.Handler{From: 77})
		want := deep(c)
		for i := range want.Methods[at].Code {
			want.Methods[at].Code[i] = api.Instr{Op: 77}
		}
		for i := range want.Methods[at].Handlers {
			want.Methods[at].Handlers[i] = api.Handler{From: 77}
		}
		if !Same(got, want) {
			t.Errorf("P5.5: method %d has lists in common with another", at)
		}
	}
}

// What a call answers hangs on its arguments alone, whatever was asked ahead.
func TestCallsApart(t *testing.T) {
	b, _ := Encode(full())
	for range 3 {
		for _, c := range samples() {
			Encode(c)
			Decode(b[:len(b)/2])
		}
		Decode(nil)
		Encode(api.Class{})
		if again, e := Encode(full()); e != api.OK || !bytes.Equal(again, b) {
			t.Fatalf("rule 4: %d", e)
		}
		if c, e, at := Decode(b); e != api.OK || at != 0 || !Same(c, full()) {
			t.Fatalf("rule 4: %d, %d", e, at)
		}
	}
}
