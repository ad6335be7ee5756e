package vtype

import (
	"slices"
	"strings"
	"testing"

	"lantern/api"
)

// P11.2: Join, on States written out, both ways round.
func TestJoin(t *testing.T) {
	p := linked(t, sample()...)
	for _, c := range []struct{ a, b, want State }{
		{State{}, State{}, State{}},
		{state("I", ""), state("I", ""), state("I", "")},
		{state("", "C"), state("", "C"), state("", "C")},
		{state("I C N T", "I C"), state("I I LLeaf; I", "I C"), state("I T LLeaf; T", "I C")},
		{state("LLeaf; LLeaf; LLeaf;", ""), state("LMid; LSide; LF;", ""), state("LMid; LBase; LObject;", "")},
		{state("", "LLeaf; N [I"), state("", "N LLone; [C"), state("", "LLeaf; LLone; LObject;")},
		{state("U1:LLeaf; U1:LLeaf; U1:LLeaf;", "U1:LLeaf;"), state("U1:LLeaf; U2:LLeaf; LLeaf;", "U1:LLeaf;"), state("U1:LLeaf; T T", "U1:LLeaf;")},
		// A stack's place whose Merge is T.
		{state("", "I"), state("", "C"), state("", "T")},
		{state("I", "I LLeaf; U1:LLeaf; T"), state("I", "N I U2:LLeaf; C"), state("I", "T T T T")},
		// Locals and stack are not mixed up.
		{state("I C", "N"), state("C I", "LLeaf;"), state("T T", "LLeaf;")},
	} {
		for _, turned := range []bool{false, true} {
			a, b := c.a, c.b
			if turned {
				a, b = b, a
			}
			if got, e := Join(p, a, b); e != api.OK || !Same(got, c.want) {
				t.Errorf("Join of %v and %v is %v, %d, want %v", a, b, got, e, c.want)
			}
		}
	}
}

// P11.2: as many as there may be, and more.
func TestJoinLong(t *testing.T) {
	p := linked(t, sample()...)
	for _, n := range []int{api.MaxLocals, api.MaxLocals + 1, 5000} {
		a := State{Locals: slices.Repeat([]string{"I"}, n), Stack: slices.Repeat([]string{"LLeaf;"}, n+1)}
		b := State{Locals: slices.Repeat([]string{"C"}, n), Stack: slices.Repeat([]string{"LSide;"}, n+1)}
		want := State{Locals: slices.Repeat([]string{"T"}, n), Stack: slices.Repeat([]string{"LBase;"}, n+1)}
		if got, e := Join(p, a, b); e != api.OK || !Same(got, want) {
			t.Errorf("Join of %d places: %d and %d, %d", n, len(got.Locals), len(got.Stack), e)
		}
	}
}

// P11.2: ErrCode, and no State beside it.
func TestJoinRefused(t *testing.T) {
	p := linked(t, sample()...)
	for _, c := range []struct{ a, b State }{
		// Not as many locals, or stack places: one more, one fewer, none; as many in all.
		{state("I", ""), state("I I", "")}, {state("I", ""), state("", "")}, {state("I I I", "C"), state("I I", "C")},
		{state("", "I"), state("", "I I")}, {state("I", "I"), state("I", "")}, {state("I", "C"), state("I", "C C")},
		{state("I", ""), state("", "I")}, {state("I C", "N"), state("I", "C N")}, {state("T T", "T"), state("T", "T T")},
		// One that may not be: on either side or on both, in the locals or on the stack, ahead or last.
		{state("LQ;", ""), state("LQ;", "")}, {state("LQ;", ""), state("T", "")}, {state("", "LQ;"), state("", "N")}, {state("", "U1:LQ;"), state("", "U1:LQ;")},
		{state("I C LQ;", "I"), state("I C LLeaf;", "I")}, {state("V I C", "I"), state("I I C", "I")}, {state("I", "I I [LQ;"), state("I", "I I [I")}, {state("I I", "I U01:LLeaf;"), state("I I", "I U1:LLeaf;")},
		{State{Locals: []string{""}}, State{Locals: []string{""}}}, {State{Stack: []string{"I", ""}}, State{Stack: []string{"I", "I"}}},
	} {
		for _, turned := range []bool{false, true} {
			a, b := c.a, c.b
			if turned {
				a, b = b, a
			}
			if got, e := Join(p, a, b); e != api.ErrCode || got.Locals != nil || got.Stack != nil {
				t.Errorf("Join of %v and %v is %v, %d", a, b, got, e)
			}
		}
	}
	for _, q := range strangeTypes() {
		for _, s := range []State{{Locals: []string{"I", q}}, {Stack: []string{q, "I"}}} {
			if got, e := Join(p, s, s); e != api.ErrCode || !empty(got) {
				t.Errorf("Join with %.60q: %v, %d", q, got, e)
			}
		}
	}
}

// P11.4: a State joined with itself is itself; joined with another it is above both, the other way round too, and joined once more it stays.
func TestJoinAbove(t *testing.T) {
	p := linked(t, sample()...)
	l := typesOf(p)
	some := State{Locals: l, Stack: l[:len(l)/2]}
	if got, e := Join(p, some, some); e != api.OK || !Same(got, some) {
		t.Errorf("joined with itself it became another: %d", e)
	}
	for turn := 1; turn < len(l); turn += 7 {
		moved := append(slices.Clone(l[turn:]), l[:turn]...)
		other := State{Locals: moved, Stack: moved[:len(l)/2]}
		got, e := Join(p, some, other)
		turned, f := Join(p, other, some)
		if e != api.OK || f != api.OK || !Same(got, turned) {
			t.Fatalf("turned by %d: it hangs on which is first, or is refused: %d, %d", turn, e, f)
		}
		for i := range l {
			if got.Locals[i] != Merge(p, l[i], moved[i]) || !Fits(p, l[i], got.Locals[i]) || !Fits(p, moved[i], got.Locals[i]) {
				t.Errorf("of %q and %q stands there %q", l[i], moved[i], got.Locals[i])
			}
		}
		for _, s := range []State{some, other, got} {
			if again, e := Join(p, got, s); e != api.OK || !Same(again, got) {
				t.Errorf("turned by %d: joined once more it became another", turn)
			}
		}
	}
}

// P11.2: Same, on States written out, both ways round.
func TestSame(t *testing.T) {
	none := []string{}
	for _, c := range []struct {
		a, b State
		want bool
	}{
		{State{}, State{}, true}, {State{}, State{Locals: none, Stack: none}, true}, {State{Locals: none}, State{Stack: none}, true}, {State{Locals: []string{"I"}}, State{Locals: []string{"I"}, Stack: none}, true},
		{state("I", "C"), state("I", "C"), true}, {state("I C N T", "LLeaf; U1:LLeaf;"), state("I C N T", "LLeaf; U1:LLeaf;"), true},
		// Other lengths.
		{state("I", ""), state("", ""), false}, {state("", "I"), state("", ""), false}, {state("I", "C"), state("I C", ""), false}, {state("I C", ""), state("I", "C"), false}, {state("I", ""), state("I I", ""), false}, {state("I", "C"), state("I", "C C"), false}, {state("T", "T"), state("T T", "T"), false},
		// Other orders.
		{state("I C", ""), state("C I", ""), false}, {state("", "I C"), state("", "C I"), false}, {state("I", "C"), state("C", "I"), false}, {state("I", ""), state("", "I"), false},
		// Other types: such as fit, too.
		{state("I", ""), state("C", ""), false}, {state("LLeaf;", ""), state("LMid;", ""), false}, {state("N", ""), state("LLeaf;", ""), false}, {state("I", ""), state("T", ""), false}, {state("U1:LLeaf;", ""), state("U2:LLeaf;", ""), false}, {state("", "[I"), state("", "[[I"), false}, {state("I I I", "C C"), state("I I I", "C I"), false},
		// Whatever stands there: it is compared as it is.
		{state("LQ;", "V"), state("LQ;", "V"), true}, {state("LQ;", ""), state("LR;", ""), false}, {State{Locals: []string{""}}, State{}, false}, {State{Locals: []string{""}}, State{Locals: []string{""}}, true}, {State{Locals: []string{"I", "C"}}, State{Locals: []string{"IC", ""}}, false}, {State{Locals: []string{"IC"}}, State{Locals: []string{"I", "C"}}, false},
	} {
		if got, turned := Same(c.a, c.b), Same(c.b, c.a); got != c.want || turned != c.want {
			t.Errorf("Same of %q and %q is %v, %v the other way round", c.a, c.b, got, turned)
		}
	}
}

// P11.2: Same finds the one place at which two are unlike, wherever it is.
func TestSameEachPlace(t *testing.T) {
	l := strings.Fields(strings.Repeat("I LLeaf; ", 10))
	for i := range l {
		other := slices.Clone(l)
		other[i] = "T"
		if Same(State{Locals: l}, State{Locals: other}) || Same(State{Stack: l}, State{Stack: other}) || Same(State{l, l}, State{other, l}) || Same(State{l, l}, State{l, other}) {
			t.Errorf("place %d: they are unlike", i)
		}
	}
}
