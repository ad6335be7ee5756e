package classfile

import (
	"bytes"
	"fmt"
	"math/rand/v2"
	"reflect"
	"slices"
	"strings"
	"testing"

	"lantern/api"
)

// row is bytes: a text is its own, a number is one.
func row(l ...any) []byte {
	var b []byte
	for _, x := range l {
		switch v := x.(type) {
		case string:
			b = append(b, v...)
		case int:
			b = append(b, byte(v))
		}
	}
	return b
}

// written is a class of each thing, and its bytes, by hand.
func written() (api.Class, []byte) {
	c := api.Class{Name: "A", Interface: true, Implements: []string{"J", "A"},
		Fields: []api.Field{{Name: "x", Desc: "I"}, {Name: "J", Desc: "I", Static: true}},
		Methods: []api.Method{
			{Name: "f", Desc: "()V", Abstract: true},
			{Name: "g", Desc: "()V", Static: true, Stack: 20, Locals: 3,
				Code: []api.Instr{
					{Op: api.Nop}, {Op: api.Iconst, A: -2}, {Op: api.Cconst, A: 258, B: 70000}, {Op: api.Load, A: 2}, {Op: api.Goto, A: 6},
					{Op: api.New, Class: "B"}, {Op: api.Newarray, Desc: "I"}, {Op: api.Putfield, Class: "A", Name: "x", Desc: "I"}, {Op: api.Callinterface, Class: "J", Name: "h", Desc: "()V"}, {Op: api.Throw},
				},
				Handlers: []api.Handler{{From: 1, To: 10, At: 9}, {From: 0, To: 2, At: 3, Class: "E"}}},
		}}
	b := row("SBC1",
		0, 11, 0, 1, "A", 0, 0, 0, 1, "J", 0, 1, "x", 0, 1, "I", 0, 1, "f", 0, 3, "()V", 0, 1, "g", 0, 1, "B", 0, 1, "h", 0, 1, "E",
		0, 0, 0, 1, 1, 0,
		0, 2, 0, 2, 0, 0,
		0, 2, 0, 3, 0, 4, 0, 0, 2, 0, 4, 1,
		0, 2,
		0, 5, 0, 6, 0, 1, 0, 0, 0, 0, 0, 0,
		0, 7, 0, 6, 1, 0, 20, 3,
		0, 10, 1, 2, 255, 255, 255, 254, 3, 0, 0, 1, 2, 0, 1, 17, 112, 5, 0, 0, 0, 2, 17, 0, 0, 0, 6,
		21, 0, 8, 26, 0, 4, 23, 0, 0, 0, 3, 0, 4, 35, 0, 2, 0, 9, 0, 6, 38,
		0, 2, 0, 1, 0, 10, 0, 9, 0, 1, 0, 0, 0, 2, 0, 3, 0, 10)
	return c, b
}

func TestEncodeByHand(t *testing.T) {
	want := row("SBC1", 0, 2, 0, 1, "A", 0, 6, "Object", 0, 0, 0, 1, 0, 0, 0, 0, 0, 0, 0, 0)
	if b, e := Encode(least()); e != api.OK || !bytes.Equal(b, want) {
		t.Errorf("P5.2: the least class: %d\n%v, want\n%v", e, b, want)
	}
	c, want := written()
	if b, e := Encode(c); e != api.OK || !bytes.Equal(b, want) {
		t.Errorf("P5.2: %d\n%v, want\n%v", e, b, want)
	}
	if d, e, at := Decode(want); e != api.OK || at != 0 || !Same(c, d) {
		t.Errorf("P5.3: %d, %d: %v", e, at, d)
	}
}

func TestEncodeSamples(t *testing.T) {
	for name, c := range samples() {
		if b, e := Encode(c); e != api.OK || !bytes.Equal(b, plainly(c).bytes(c)) {
			t.Errorf("P5.2: %q: %d, %d bytes", name, e, len(b))
		}
	}
}

// What is written is read, and is written again.
func TestRoundTrip(t *testing.T) {
	for name, c := range samples() {
		for what, given := range map[string]api.Class{name: c, name + ", littered": littered(c)} {
			b, _ := Encode(given)
			got, e, at := Decode(b)
			if e != api.OK || at != 0 || !Same(got, given) {
				t.Errorf("P5.5: %q: %d, %d, Same %v", what, e, at, Same(got, given))
			}
			// What an Op does not have is zero in c.
			if fmt.Sprint(got) != fmt.Sprint(c) {
				t.Errorf("P5.5: %q: %v, want %v", what, got, c)
			}
			if again, e := Encode(got); e != api.OK || !bytes.Equal(again, b) {
				t.Errorf("P5.5: %q: written again: %d", what, e)
			}
		}
	}
}

// wantRefused asks that Decode tells an error of the chapter's, a place, and nothing else.
func wantRefused(t *testing.T, what string, b []byte) (api.Errno, int) {
	t.Helper()
	c, e, at := Decode(b)
	if !slices.Contains([]api.Errno{api.ErrForm, api.ErrIndex, api.ErrLimit, api.ErrName, api.ErrShort, api.ErrTag}, e) || at < 0 || at > len(b) {
		t.Errorf("P5.3: %q: error %d at %d of %d", what, e, at, len(b))
	}
	if !reflect.DeepEqual(c, api.Class{}) {
		t.Errorf("P5.3: %q: beside an error: %v", what, c)
	}
	return e, at
}

// wantOneForm asks that b is refused, or is what Encode tells of what was read.
func wantOneForm(t *testing.T, what string, b []byte) {
	t.Helper()
	c, e, at := Decode(b)
	if e != api.OK {
		wantRefused(t, what, b)
		return
	}
	again, f := Encode(c)
	if f != api.OK || at != 0 || !bytes.Equal(again, b) || !bytes.Equal(plainly(c).bytes(c), b) {
		t.Errorf("P5.3: %q: read, and not in the one form: %d, %d", what, f, at)
	}
}

func TestDecodeBeginnings(t *testing.T) {
	for name, c := range samples() {
		b, _ := Encode(c)
		step := 1 + len(b)/3000
		for i := 0; i < len(b); i += step {
			if e, at := wantRefused(t, fmt.Sprint(name, " cut at ", i), b[:i]); e != api.ErrShort || at > i {
				t.Fatalf("P5.3: %q, cut at %d: %d, %d", name, i, e, at)
			}
		}
		if e, at := wantRefused(t, name+" but the last", b[:len(b)-1]); e != api.ErrShort || at >= len(b) {
			t.Errorf("P5.3: %q without its last byte: %d, %d", name, e, at)
		}
	}
	for _, b := range [][]byte{nil, {}, []byte("S"), []byte("SBC"), []byte("SBC1")} {
		if e, at := wantRefused(t, string(b), b); e != api.ErrShort || at > len(b) {
			t.Errorf("P5.3: %q: %d, %d", b, e, at)
		}
	}
}

func TestDecodeOtherBytes(t *testing.T) {
	b, _ := Encode(full())
	for _, mark := range []string{"SBC2", "SBC\x00", "sbc1", "XBC1", "\xca\xfe\xba\xbe", "1CBS"} {
		wantRefused(t, mark, append([]byte(mark), b[4:]...))
		wantRefused(t, mark+" alone", []byte(mark))
	}
	wantRefused(t, "without the mark", b[4:])
	wantRefused(t, "X", []byte("X"))
	for _, more := range [][]byte{{0}, {1}, {255}, b, make([]byte, 1000)} {
		wantRefused(t, "bytes behind the end", slices.Concat(b, more))
	}
	wantRefused(t, "a byte ahead", append([]byte{0}, b...))
	for _, n := range []int{1, 2, 100, api.MaxFile} {
		wantRefused(t, "noughts", make([]byte, n))
		wantRefused(t, "255s", bytes.Repeat([]byte{255}, n))
	}
}

func TestDecodeTurnedBytes(t *testing.T) {
	for name, c := range map[string]api.Class{"least": least(), "top": top(), "face": face(), "full": full(), "odd": odd()} {
		b, _ := Encode(c)
		for i := range b {
			y := slices.Clone(b)
			for v := range 256 {
				y[i] = byte(v)
				wantOneForm(t, fmt.Sprintf("%s, byte %d is %d", name, i, v), y)
			}
		}
	}
}

// By lot, always the same: bytes turned, cut out, doubled.
func TestDecodeSpoiltBytes(t *testing.T) {
	r := rand.New(rand.NewPCG(5, 5))
	for i := range 20000 {
		c := made(r)
		b, _ := Encode(c)
		for range 1 + r.IntN(3) {
			at := r.IntN(len(b))
			switch r.IntN(4) {
			case 0:
				b[at] = byte(r.IntN(256))
			case 1:
				b[at] ^= 1 << r.IntN(8)
			case 2:
				b = slices.Delete(b, at, min(len(b)-1, at+r.IntN(4)))
			case 3:
				b = slices.Insert(b, at, b[at:min(len(b), at+r.IntN(4))]...)
			}
		}
		wantOneForm(t, fmt.Sprint("spoilt ", i), b)
	}
}

func TestDecodeOtherPools(t *testing.T) {
	for name, c := range map[string]api.Class{"least": least(), "full": full(), "odd": odd(), "top": top()} {
		pool := plainPool(c)
		turn := func(what string, pool []string) {
			t.Helper()
			w := plainly(c)
			w.pool = pool
			wantRefused(t, name+": "+what, w.bytes(c))
		}
		for i := 1; i < len(pool); i++ {
			l := slices.Clone(pool)
			l[i-1], l[i] = l[i], l[i-1]
			turn(fmt.Sprint("places ", i, " and the one ahead are swapped"), l)
		}
		for i := range pool {
			turn("a text twice, the second at the end", append(slices.Clone(pool), pool[i]))
			turn("a text twice, side by side", slices.Insert(slices.Clone(pool), i, pool[i]))
		}
		for _, s := range []string{"Z", "unused", "9", "\xff"} {
			turn("one more at the end", append(slices.Clone(pool), s))
			turn("one more ahead", append([]string{s}, pool...))
		}
		if !slices.Contains(pool, "") {
			turn("the empty text", append(slices.Clone(pool), ""))
		}
	}
	// Of a text that stands there twice, each place may be named: none of them is the one form.
	c := least()
	c.Super = "A"
	w := plainly(c)
	w.pool = []string{"A", "A"}
	next := -1
	w.place = func(string) int { next++; return next }
	wantRefused(t, "both places of a text", w.bytes(c))
	// No text, and a text that is too long for what is left.
	w = plainly(least())
	w.pool = nil
	w.place = func(string) int { return 0 }
	wantRefused(t, "no pool", w.bytes(least()))
	wantRefused(t, "a text without its end", row("SBC1", 0, 1, 255, 255, "A"))
	wantRefused(t, "more texts than bytes", row("SBC1", 255, 255, 0, 1, "A"))
}

// onlyAt tells, called again and again, whether this is the call of that number, from 0 on; how many there were stands in calls.
func onlyAt(number int, calls *int) func() bool {
	*calls = 0
	return func() bool {
		*calls++
		return *calls-1 == number
	}
}

// wantPlacesRefused writes c with one of its places in the pool turned to one that is none, each of them in its turn.
func wantPlacesRefused(t *testing.T, what string, c api.Class, beyond int) (places int) {
	t.Helper()
	for k := 0; k == 0 || k < places; k++ {
		w := plainly(c)
		right, turned := w.place, onlyAt(k, &places)
		w.place = func(s string) int {
			if turned() {
				return len(w.pool) + beyond
			}
			return right(s)
		}
		wantRefused(t, fmt.Sprint(what, ": place ", k), w.bytes(c))
	}
	return places
}

// wantYesesRefused does so with each yes.
func wantYesesRefused(t *testing.T, what string, c api.Class, yes byte) (yeses int) {
	t.Helper()
	for k := 0; k == 0 || k < yeses; k++ {
		w := plainly(c)
		right, turned := w.yes, onlyAt(k, &yeses)
		w.yes = func(is bool) byte {
			if turned() {
				return yes
			}
			return right(is)
		}
		wantRefused(t, fmt.Sprint(what, ": yes ", k), w.bytes(c))
	}
	return yeses
}

func TestDecodePlacesAndYeses(t *testing.T) {
	for name, c := range map[string]api.Class{"least": least(), "face": face(), "full": full(), "top": top()} {
		for _, beyond := range []int{0, 1, 256, 65535 - len(plainPool(c))} {
			if n := wantPlacesRefused(t, name, c, beyond); n < len(plainPool(c)) {
				t.Errorf("%s: %d places", name, n)
			}
		}
		for _, yes := range []byte{2, 3, 128, 255} {
			if n := wantYesesRefused(t, name, c, yes); n != 2+len(c.Fields)+2*len(c.Methods) {
				t.Errorf("%s: %d yeses", name, n)
			}
		}
	}
}

// What Check refuses is not read, though it is written out.
func TestDecodeRefusedClasses(t *testing.T) {
	for _, x := range inOrder() {
		c := full()
		x.turn(&c)
		// A number that is too great for its bytes is cut to another one, which may be.
		if !strings.HasSuffix(x.name, ": a number") {
			wantRefused(t, x.name, plainly(c).bytes(c))
		}
	}
	for _, op := range []int{0, api.Ops + 1, 100, 255} {
		for at := range 3 {
			c := full()
			c.Methods[staticOne].Code[at] = api.Instr{Op: op}
			wantRefused(t, fmt.Sprint("Op ", op), plainly(c).bytes(c))
		}
	}
	for _, n := range []int{api.MaxPool + 1, 606} {
		c := withTexts(n)
		wantRefused(t, fmt.Sprint(n, " texts"), plainly(c).bytes(c))
	}
}

func TestDecodeSizes(t *testing.T) {
	greatest, e := Encode(filled())
	if e != api.OK || len(greatest) > api.MaxFile || len(greatest) < 150000 {
		t.Fatalf("the greatest class: %d, %d bytes", e, len(greatest))
	}
	small, _ := Encode(least())
	for _, b := range [][]byte{nil, small, greatest} {
		long := append(slices.Clone(b), make([]byte, api.MaxFile+1-len(b))...)
		if e, at := wantRefused(t, "MaxFile + 1", long); e != api.ErrLimit || at != 0 {
			t.Errorf("P5.3: MaxFile + 1 bytes: %d, %d", e, at)
		}
		if e, _ := wantRefused(t, "MaxFile", long[:api.MaxFile]); e == api.ErrLimit {
			t.Errorf("P5.3: MaxFile bytes are not too many")
		}
	}
	if e, at := wantRefused(t, "far more", make([]byte, 4*api.MaxFile)); e != api.ErrLimit || at != 0 {
		t.Errorf("P5.3: far more bytes: %d, %d", e, at)
	}
}
