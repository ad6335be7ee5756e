package vtype

import (
	"math"
	"slices"
	"strings"
	"testing"

	"lantern/api"
	"lantern/link"
)

func method(d string, static bool, locals int) api.Method {
	return api.Method{Name: "f", Desc: d, Static: static, Locals: locals}
}

// P11.3: rows written out.
func TestStart(t *testing.T) {
	p := linked(t, sample()...)
	for _, c := range []struct {
		desc   string
		static bool
		locals int
		want   string
	}{
		// No parameters; Locals just enough, and more.
		{"()V", true, 0, ""}, {"()V", true, 1, "T"}, {"()V", true, 3, "T T T"}, {"()V", false, 1, "LLeaf;"}, {"()V", false, 2, "LLeaf; T"},
		// Each kind of parameter, arrays too.
		{"(I)V", true, 1, "I"}, {"(C)V", true, 1, "C"}, {"(LLone;)V", true, 1, "LLone;"}, {"(LF;)V", true, 1, "LF;"}, {"([I)V", true, 1, "[I"}, {"([LF;)V", true, 1, "[LF;"}, {"([[[[C)V", true, 1, "[[[[C"}, {"(LT;)V", true, 2, "LT; T"},
		{"(ICLLone;[I[LLeaf;[[[[LF;)V", true, 6, "I C LLone; [I [LLeaf; [[[[LF;"}, {"(ICLLone;[I[LLeaf;[[[[LF;)V", false, 9, "LLeaf; I C LLone; [I [LLeaf; [[[[LF; T T"}, {"(CI)V", true, 2, "C I"}, {"(CI)V", false, 3, "LLeaf; C I"}, {"(LLeaf;)V", false, 2, "LLeaf; LLeaf;"},
		{"(IIIIIIII)V", true, 8, "I I I I I I I I"}, {"(CCCCCCCC)V", false, 9, "LLeaf; C C C C C C C C"}, {"(IIIIIIII)V", false, 20, "LLeaf; I I I I I I I I T T T T T T T T T T T"},
		// What it tells makes no odds.
		{"()I", true, 1, "T"}, {"(I)C", true, 1, "I"}, {"(I)LLone;", false, 2, "LLeaf; I"}, {"()[[LLone;", true, 0, ""}, {"()LQ;", false, 1, "LLeaf;"},
		// More locals than a class may have are told all the same.
		{"(I)V", true, 25, "I" + strings.Repeat(" T", 24)},
	} {
		got := Start(p, "Leaf", method(c.desc, c.static, c.locals))
		if !slices.Equal(got.Locals, strings.Fields(c.want)) || len(got.Stack) != 0 {
			t.Errorf("Start of %q, %v, %d is %v, want %q", c.desc, c.static, c.locals, got, c.want)
		}
	}
}

// P11.3: an empty State, if Locals are too few, by one or more.
func TestStartTooFew(t *testing.T) {
	p := linked(t, sample()...)
	for _, d := range []string{"()V", "(I)V", "(C)V", "(LLone;)V", "([I)V", "(I[LF;)V", "(IIIIIIII)V", "(LQ;LQ;)V"} {
		for _, static := range []bool{false, true} {
			need := strings.Count(d, "I") + strings.Count(d, "C") + strings.Count(d, "L")
			if strings.Contains(d, "Lone") {
				need = 1
			}
			if !static {
				need++
			}
			for _, locals := range []int{need - 1, need - 2, 0, -1, math.MinInt} {
				if got := Start(p, "Leaf", method(d, static, locals)); locals < need && !empty(got) {
					t.Errorf("Start of %q, %v, %d is %v", d, static, locals, got)
				}
			}
			if got := Start(p, "Leaf", method(d, static, need)); len(got.Locals) != need {
				t.Errorf("Start of %q, %v, %d is %v", d, static, need, got)
			}
		}
	}
}

// P11.3: an empty State, if Desc is no method's type, however many Locals there are.
func TestStartNoDesc(t *testing.T) {
	p := linked(t, sample()...)
	for _, d := range []string{
		"", "(", ")", "()", "(I", "(I)", "I", "V", "I)V", "(V)V", "(T)V", "(N)V", "(I)T", "(I)N", "()VV", "()V ", " ()V", "(I,I)V", "(Q)V", "(L;)V", "(LQ)V", "([)V", "([V)V", "()[V", "([[[[[I)V", "()[[[[[I", "(U1:LLeaf;)V", "()U1:LLeaf;",
		"(IIIIIIIII)V", "(L" + strings.Repeat("x", api.MaxName+1) + ";)V", "((I)V)V", "()V()V", "(" + strings.Repeat("I", 1<<16) + ")V",
	} {
		for _, static := range []bool{false, true} {
			for _, locals := range []int{-1, 0, 1, 5, 20} {
				if got := Start(p, "Leaf", method(d, static, locals)); !empty(got) {
					t.Errorf("Start of %.40q, %v, %d is %v", d, static, locals, got)
				}
			}
		}
	}
}

// P11.3: class and types are laid as they are told, there or not: the sentence asks of neither that the program has it.
func TestStartStrangers(t *testing.T) {
	p := linked(t, sample()...)
	for _, q := range []*link.Prog{p, nil, new(link.Prog), linked(t)} {
		for _, c := range []struct {
			class  string
			desc   string
			static bool
			want   string
		}{
			{"Q", "()V", false, "LQ; T T"}, {"Q", "(I)V", false, "LQ; I T"}, {"Q", "(I)V", true, "I T T"}, {"Leaf", "(LQ;[LQ;)V", true, "LQ; [LQ; T"}, {"F", "(C)V", false, "LF; C T"}, {"Sys", "()V", false, "LSys; T T"}, {"Object", "()V", false, "LObject; T T"}, {"T", "()V", false, "LT; T T"},
			{"", "(I)V", true, "I T T"}, {"9", "()V", true, "T T T"}, {"LLeaf;", "(C)V", true, "C T T"},
		} {
			got := Start(q, c.class, method(c.desc, c.static, 3))
			if !Same(got, state(c.want, "")) {
				t.Errorf("Start of %q, %q, %v is %v, want %q", c.class, c.desc, c.static, got, c.want)
			}
		}
	}
}

// P11.3: nothing hangs on what else a method has.
func TestStartOther(t *testing.T) {
	p := linked(t, sample()...)
	m := method("(I)V", false, 3)
	want := Start(p, "Leaf", m)
	m.Name, m.Stack, m.Abstract = "<init>", 7, true
	m.Code = []api.Instr{{Op: api.Store, A: 1}, {Op: api.Return}}
	m.Handlers = []api.Handler{{From: 0, To: 1, At: 1, Class: "MemEx"}}
	if got := Start(p, "Leaf", m); !Same(got, want) || !Same(got, state("LLeaf; I T", "")) {
		t.Errorf("it became %v", got)
	}
}

// P11.3: all of a start may be, and fits itself, where its class and its types are there.
func TestStartMay(t *testing.T) {
	p := linked(t, sample()...)
	for _, name := range p.Names() {
		s := Start(p, name, method("(IC[I[[LLeaf;LF;)V", false, 9))
		if len(s.Locals) != 9 || s.Locals[0] != "L"+name+";" {
			t.Errorf("Start in %q is %v", name, s)
		}
		if got, e := Join(p, s, s); e != api.OK || !Same(got, s) {
			t.Errorf("%v joined with itself is %v, %d", s, got, e)
		}
	}
}

// Beyond the document's bound nothing is promised, but that it ends.
func TestStartBeyondBound(t *testing.T) {
	p := linked(t, sample()...)
	for _, locals := range []int{math.MaxInt, math.MaxInt32 + 1} {
		Start(p, "Leaf", method("(I)V", false, locals))
	}
}
