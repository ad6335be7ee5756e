package bytesio

import (
	"bytes"
	"fmt"
	"slices"
	"strings"
	"testing"

	"lantern/api"
)

// write is a call of a Writer, by name.
type write struct {
	name string
	call func(w *Writer) *Writer
}

func u1(n int) write {
	return write{fmt.Sprintf("U1(%d)", n), func(w *Writer) *Writer { return w.U1(n) }}
}

func u2(n int) write {
	return write{fmt.Sprintf("U2(%d)", n), func(w *Writer) *Writer { return w.U2(n) }}
}

func i4(n int) write {
	return write{fmt.Sprintf("I4(%d)", n), func(w *Writer) *Writer { return w.I4(n) }}
}

func text(s string) write {
	return write{fmt.Sprintf("Text of %d bytes", len(s)), func(w *Writer) *Writer { return w.Text(s) }}
}

// goodWrites has, of each call, what it may be given.
func goodWrites() []write {
	return []write{u1(0), u1(7), u1(255), u2(0), u2(258), u2(65535), i4(-1 << 31), i4(0), i4(1<<31 - 1), text(""), text("ab"), text(strings.Repeat("x", 65535))}
}

// badWrites has, of each call, what it may not be given: one beside each edge, and far off.
func badWrites() []write {
	const far = 1 << 62
	return []write{
		u1(-1), u1(256), u1(far), u1(-far),
		u2(-1), u2(65536), u2(far), u2(-far),
		i4(-1<<31 - 1), i4(1 << 31), i4(far), i4(-far), i4(1 << 32),
		text(strings.Repeat("x", 65536)), text(strings.Repeat("x", 1<<17)),
	}
}

// P1.1: how each value is written.
func TestWriterBytes(t *testing.T) {
	for _, c := range []struct {
		write
		want []byte
	}{
		{u1(0), []byte{0}},
		{u1(1), []byte{1}},
		{u1(254), []byte{254}},
		{u1(255), []byte{255}},
		{u2(0), []byte{0, 0}},
		{u2(1), []byte{0, 1}},
		{u2(258), []byte{1, 2}},
		{u2(65534), []byte{255, 254}},
		{u2(65535), []byte{255, 255}},
		{i4(0), []byte{0, 0, 0, 0}},
		{i4(-1), []byte{255, 255, 255, 255}},
		{i4(-2), []byte{255, 255, 255, 254}},
		{i4(0x01020304), []byte{1, 2, 3, 4}},
		{i4(-1 << 31), []byte{128, 0, 0, 0}},
		{i4(-1<<31 + 1), []byte{128, 0, 0, 1}},
		{i4(1<<31 - 1), []byte{127, 255, 255, 255}},
		{i4(1<<31 - 2), []byte{127, 255, 255, 254}},
		{text(""), []byte{0, 0}},
		{text("ab"), []byte{0, 2, 97, 98}},
		{text("\xff\x00é"), []byte{0, 4, 255, 0, 0xc3, 0xa9}},
		{text(strings.Repeat("x", 65535)), append([]byte{255, 255}, bytes.Repeat([]byte("x"), 65535)...)},
	} {
		var w Writer
		if c.call(&w) != &w {
			t.Errorf("%s: does not tell the Writer", c.name)
		}
		if got := w.Bytes(); !bytes.Equal(got, c.want) || w.Bad() {
			t.Errorf("%s: got %d bytes, bad %v; want %d", c.name, len(got), w.Bad(), len(c.want))
		}
	}
}

// P1.1: one value behind the other, and a zero Writer.
func TestWriterOrder(t *testing.T) {
	var w Writer
	if len(w.Bytes()) != 0 || w.Bad() {
		t.Errorf("zero Writer: %v %v", w.Bytes(), w.Bad())
	}
	got := w.U1(9).Text("a").U2(3).I4(-2).Bytes()
	if want := []byte{9, 0, 1, 97, 0, 3, 255, 255, 255, 254}; !bytes.Equal(got, want) {
		t.Errorf("got %v, want %v", got, want)
	}
}

// P1.1: a wrong argument makes the Writer bad, whatever came ahead and whatever comes behind.
func TestWriterBad(t *testing.T) {
	for _, b := range badWrites() {
		for _, begun := range []bool{false, true} {
			w := &Writer{}
			if begun {
				w.U1(1).Text("ab")
			}
			if b.call(w) != w {
				t.Errorf("%s: does not tell the Writer", b.name)
			}
			if !w.Bad() || len(w.Bytes()) != 0 {
				t.Errorf("%s: bad %v, %d bytes", b.name, w.Bad(), len(w.Bytes()))
			}
			for _, after := range append(goodWrites(), badWrites()...) {
				if after.call(w) != w || !w.Bad() || len(w.Bytes()) != 0 {
					t.Errorf("%s, then %s: bad %v, %d bytes", b.name, after.name, w.Bad(), len(w.Bytes()))
				}
			}
		}
	}
}

// P1.1: a nil Writer.
func TestWriterNil(t *testing.T) {
	var w *Writer
	for _, c := range append(goodWrites(), badWrites()...) {
		if c.call(w) != nil {
			t.Errorf("%s of a nil Writer: not nil", c.name)
		}
	}
	if len(w.Bytes()) != 0 || !w.Bad() {
		t.Errorf("nil Writer: %v %v", w.Bytes(), w.Bad())
	}
}

// read is a call of a Reader, by name, and what it tells where there is nothing.
type read struct {
	name string
	call func(r *Reader) any
	none any
}

func reads() []read {
	return []read{
		{"U1", func(r *Reader) any { return r.U1() }, 0},
		{"U2", func(r *Reader) any { return r.U2() }, 0},
		{"I4", func(r *Reader) any { return r.I4() }, 0},
		{"Text", func(r *Reader) any { return r.Text() }, ""},
	}
}

// state is what a Reader tells of itself.
type state struct {
	at, left int
	err      api.Errno
	place    int
}

func stateOf(r *Reader) state {
	err, place := r.Err()
	return state{r.At(), r.Left(), err, place}
}

// checkFailed tells whether r has failed at place, and stays so whatever is called.
func checkFailed(t *testing.T, what string, r *Reader, place int) {
	t.Helper()
	want := state{at: place, err: api.ErrShort, place: place}
	if got := stateOf(r); got != want {
		t.Errorf("%s: %v, want %v", what, got, want)
	}
	for range 2 {
		for _, after := range reads() {
			if got := after.call(r); got != after.none {
				t.Errorf("%s, then %s: got %v", what, after.name, got)
			}
			if got := stateOf(r); got != want {
				t.Errorf("%s, then %s: %v, want %v", what, after.name, got, want)
			}
		}
	}
}

// P1.2: each value, and where the Reader stands around it.
func TestReaderValues(t *testing.T) {
	r := NewReader([]byte{0, 255, 1, 2, 255, 255, 255, 255, 255, 254, 128, 0, 0, 0, 127, 255, 255, 255, 0, 2, 97, 98, 0, 0, 0, 1, 255})
	all := reads()
	readU1, readU2, readI4, readText := all[0], all[1], all[2], all[3]
	if got, want := stateOf(r), (state{left: 27}); got != want {
		t.Errorf("at the beginning: %v, want %v", got, want)
	}
	for i, c := range []struct {
		read
		want any
		at   int
	}{
		{readU1, 0, 1}, {readU1, 255, 2}, {readU2, 258, 4}, {readU2, 65535, 6}, {readI4, -2, 10},
		{readI4, -1 << 31, 14}, {readI4, 1<<31 - 1, 18}, {readText, "ab", 22}, {readText, "", 24}, {readText, "\xff", 27},
	} {
		if got := c.call(r); got != c.want {
			t.Errorf("%d: %s: got %v, want %v", i, c.name, got, c.want)
		}
		if got, want := stateOf(r), (state{at: c.at, left: 27 - c.at}); got != want {
			t.Errorf("%d: behind %s: %v, want %v", i, c.name, got, want)
		}
	}
}

// P1.2: bytes that end ahead of a value's end, at the beginning and behind another value.
func TestReaderShort(t *testing.T) {
	all := reads()
	readU1, readU2, readI4, readText := all[0], all[1], all[2], all[3]
	for _, c := range []struct {
		read
		b []byte
	}{
		{readU1, nil}, {readU1, []byte{}},
		{readU2, nil}, {readU2, []byte{1}},
		{readI4, nil}, {readI4, []byte{1}}, {readI4, []byte{1, 2}}, {readI4, []byte{1, 2, 3}},
		{readText, nil}, {readText, []byte{0}}, {readText, []byte{1}}, {readText, []byte{0, 1}}, {readText, []byte{0, 2, 97}},
		{readText, []byte{0, 3, 97, 98}}, {readText, append([]byte{255, 255}, make([]byte, 65534)...)},
	} {
		for begin := range 3 {
			what := fmt.Sprintf("%s of %d bytes, from %d on", c.name, len(c.b), begin)
			r := NewReader(append(bytes.Repeat([]byte{9}, begin), c.b...))
			for range begin {
				r.U1()
			}
			if got := c.call(r); got != c.none {
				t.Errorf("%s: got %v", what, got)
			}
			checkFailed(t, what, r, begin)
		}
	}
}

// P1.2: a Reader that failed does not read a smaller value that would still fit.
func TestReaderStaysFailed(t *testing.T) {
	r := NewReader([]byte{5, 1, 2, 3})
	if r.U1() != 5 || r.I4() != 0 {
		t.Error("U1, then I4 of three bytes")
	}
	checkFailed(t, "I4 of three bytes", r, 1)
	r = NewReader([]byte{0, 1, 97, 0, 9, 1, 2, 3, 4})
	if got := r.Text() + "|" + r.Text() + "|" + r.Text(); got != "a||" {
		t.Errorf("Text, Text, Text: %q", got)
	}
	checkFailed(t, "Text of nine with four", r, 3)
}

// P1.3: a nil Reader never fails.
func TestReaderNil(t *testing.T) {
	var r *Reader
	for range 2 {
		for _, c := range reads() {
			if got := c.call(r); got != c.none {
				t.Errorf("%s of a nil Reader: %v", c.name, got)
			}
			if got := stateOf(r); got != (state{}) {
				t.Errorf("behind %s of a nil Reader: %v", c.name, got)
			}
		}
	}
}

// P1.3: a zero Reader has no bytes, as one of none; and it fails.
func TestReaderZero(t *testing.T) {
	for _, fresh := range []func() *Reader{func() *Reader { return &Reader{} }, func() *Reader { return NewReader(nil) }} {
		for _, c := range reads() {
			r := fresh()
			if got := stateOf(r); got != (state{}) {
				t.Errorf("a Reader of nothing: %v", got)
			}
			if got := c.call(r); got != c.none {
				t.Errorf("%s of nothing: %v", c.name, got)
			}
			checkFailed(t, c.name+" of nothing", r, 0)
		}
	}
}

// P1.4: every value of U1 and U2, the edges of I4, texts of the edges' lengths.
func TestRoundTripOneByOne(t *testing.T) {
	var ints []int
	for bit := range 31 {
		n := 1 << bit
		ints = append(ints, n-1, n, -n, -n-1)
	}
	ints = append(ints, 1<<31-2, 1<<31-1, -1<<31, -1<<31+1)
	var w Writer
	for n := range 256 {
		w.U1(n)
	}
	for n := range 65536 {
		w.U2(n)
	}
	for _, n := range ints {
		w.I4(n)
	}
	r := NewReader(w.Bytes())
	for n := range 256 {
		if got := r.U1(); got != n {
			t.Fatalf("U1(%d): %d", n, got)
		}
	}
	for n := range 65536 {
		if got := r.U2(); got != n {
			t.Fatalf("U2(%d): %d", n, got)
		}
	}
	for _, n := range ints {
		if got := r.I4(); got != n {
			t.Fatalf("I4(%d): %d", n, got)
		}
	}
	if err, _ := r.Err(); err != api.OK || r.Left() != 0 {
		t.Errorf("at the end: %v", stateOf(r))
	}
}

// P1.4: texts of all kinds of bytes, and every true beginning of them fails at the text that is cut.
func TestRoundTripTexts(t *testing.T) {
	every := make([]byte, 256)
	for i := range every {
		every[i] = byte(i)
	}
	texts := []string{"", "a", string(every), strings.Repeat("é", 150), "", strings.Repeat("\xff", 300), "end"}
	var w Writer
	ends := []int{0}
	for _, s := range texts {
		ends = append(ends, len(w.Text(s).Bytes()))
	}
	whole := w.Bytes()
	for cut := range len(whole) + 1 {
		r := NewReader(whole[:cut])
		for i, s := range texts {
			if ends[i+1] > cut {
				if r.Text() != "" || stateOf(r) != (state{ends[i], 0, api.ErrShort, ends[i]}) {
					t.Fatalf("cut at %d: %v, want a fault at %d", cut, stateOf(r), ends[i])
				}
				break
			}
			if got := r.Text(); got != s || r.At() != ends[i+1] {
				t.Fatalf("cut at %d: text %d: %q, at %d", cut, i, got, r.At())
			}
		}
	}
	for _, n := range []int{65534, 65535} {
		s := strings.Repeat("y", n)
		r := NewReader(new(Writer).Text(s).U1(3).Bytes())
		if r.Text() != s || r.U1() != 3 || r.Left() != 0 {
			t.Errorf("a text of %d bytes is not read as it was written", n)
		}
	}
}

// P1.4: a Reader neither changes nor keeps its bytes, nor sees what stands behind them.
func TestReaderMemory(t *testing.T) {
	room := []byte{0, 1, 97, 7, 8, 9, 10}
	in := room[:4]
	r := NewReader(in)
	other := NewReader(in)
	if r.Left() != 4 {
		t.Errorf("spare room is read: %d left", r.Left())
	}
	if r.Text() != "a" || r.U1() != 7 || r.U1() != 0 {
		t.Error("not what was handed in")
	}
	if !slices.Equal(room, []byte{0, 1, 97, 7, 8, 9, 10}) {
		t.Errorf("changed: %v", room)
	}
	clear(room)
	if got := other.Text(); got != "a" || other.U1() != 7 {
		t.Errorf("kept: %q", got)
	}
}

// P1.4: what Bytes tells is new memory each time, and stays as it was while the Writer goes on.
func TestWriterMemory(t *testing.T) {
	var w Writer
	for n := range 40 { // far enough for the Writer's own memory to grow, and to have spare room
		before := w.Bytes()
		if len(before) != n {
			t.Fatalf("%d bytes, want %d", len(before), n)
		}
		w.U1(n)
		// Writing all over an answer, its spare room too, must not be seen in the Writer.
		spoilt := before[:cap(before)]
		for i := range spoilt {
			spoilt[i] = 99
		}
		after := w.Bytes()
		for i, b := range after {
			if int(b) != i {
				t.Fatalf("byte %d is %d", i, b)
			}
		}
	}
	kept := w.Bytes()
	w.U1(1).U1(256)
	if len(kept) != 40 || kept[39] != 39 {
		t.Errorf("an answer was changed: %v", kept)
	}
}

// DOC.md, rule 7: objects have nothing in common.
func TestObjectsApart(t *testing.T) {
	var a, b Writer
	a.U1(1).U1(-1)
	b.U1(2)
	if !a.Bad() || b.Bad() || !slices.Equal(b.Bytes(), []byte{2}) {
		t.Errorf("Writers: %v %v %v", a.Bad(), b.Bad(), b.Bytes())
	}
	r, s := NewReader(b.Bytes()), NewReader(b.Bytes())
	r.U2()
	if s.U1() != 2 || s.At() != 1 {
		t.Errorf("Readers: %v", stateOf(s))
	}
}
