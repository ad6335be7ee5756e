package vtype

import (
	"math"
	"regexp"
	"strconv"
	"strings"
	"testing"

	"lantern/api"
	"lantern/link"
)

// P11.1: May of all types of a program, and of others.
func TestMay(t *testing.T) {
	p := linked(t, sample()...)
	for _, s := range typesOf(p) {
		if !May(p, s) {
			t.Errorf("%q may be", s)
		}
	}
	for _, s := range strangeTypes() {
		if May(p, s) {
			t.Errorf("%.60q may not be", s)
		}
	}
}

// P11.1: rows written out: of arrays up to MaxDims, of made ones of classes and of interfaces.
func TestMayRows(t *testing.T) {
	p := linked(t, sample()...)
	for _, c := range []struct {
		of   string
		want bool
	}{
		{"T", true}, {"I", true}, {"C", true}, {"N", true}, {"V", false}, {"", false}, {"U", false}, {"L", false},
		{"LLeaf;", true}, {"LF;", true}, {"LSys;", true}, {"LTask;", true}, {"LObject;", true}, {"LQ;", false}, {"LT;", true}, {"LI;", true}, {"LN;", true}, {"LU1;", true}, {"LU2;", false},
		{"[I", true}, {"[C", true}, {"[[[[I", true}, {"[[[[[I", false}, {"[T", false}, {"[N", false}, {"[V", false}, {"[LLeaf;", true}, {"[[[[LLeaf;", true}, {"[[[[[LLeaf;", false}, {"[LQ;", false},
		{"U1:LLeaf;", true}, {"U1:LF;", true}, {"U1:LSys;", true}, {"U0:LObject;", true}, {"U500:LMemEx;", true}, {"U1:LQ;", false}, {"U1:[LLeaf;", false}, {"U1:[I", false}, {"U1:I", false}, {"U1:N", false}, {"U01:LLeaf;", false}, {"[U1:LLeaf;", false}, {"U1:LU1;", true},
	} {
		if got := May(p, c.of); got != c.want {
			t.Errorf("May(%q) is %v", c.of, got)
		}
	}
}

// P11.1: what may be hangs on the program; of a made type only that, and not which place it is of.
func TestMayElsewhere(t *testing.T) {
	bare, other := linked(t), linked(t, class("Q", "Object"))
	for _, s := range append(arraysOf("LQ;"), "LQ;", "U0:LQ;", "U1:LQ;", "U199:LQ;") {
		if May(bare, s) || !May(other, s) || May(nil, s) {
			t.Errorf("%q: %v without its class, %v with it, %v in no program", s, May(bare, s), May(other, s), May(nil, s))
		}
	}
	if May(other, "LLeaf;") || May(other, "U1:LLeaf;") {
		t.Error("a class of another program is told of")
	}
}

// P11.1: no type is known to a nil program (7), so it has no reference types and no made ones: T, I, C and N are left.
func TestNilProgram(t *testing.T) {
	p := linked(t, sample()...)
	for _, s := range append(append(refsOf(p), madesOf(p)...), strangeTypes()...) {
		if May(nil, s) {
			t.Errorf("%.60q may be", s)
		}
		for _, other := range []string{"T", "I", "N", "LObject;", "U1:LLeaf;", s} {
			if Fits(nil, s, other) || Fits(nil, other, s) || Merge(nil, s, other) != "" || Merge(nil, other, s) != "" {
				t.Errorf("%.60q and %.60q: something is told of them", s, other)
			}
			if out, e := Join(nil, State{Locals: []string{s}}, State{Locals: []string{other}}); e != api.ErrCode || !empty(out) {
				t.Errorf("Join of %.60q and %.60q: %v, %d", s, other, out, e)
			}
		}
	}
	for _, s := range []string{"T", "I", "C", "N"} {
		if !May(nil, s) || !Fits(nil, s, s) || !Fits(nil, s, "T") || Merge(nil, s, s) != s || Merge(nil, s, "T") != "T" || Merge(nil, "T", s) != "T" {
			t.Errorf("%q is a type of no program", s)
		}
	}
	if out, e := Join(nil, state("I N", "C"), state("I C", "C")); e != api.OK || !Same(out, state("I T", "C")) {
		t.Errorf("Join: %v, %d", out, e)
	}
	if out, e := Join(nil, State{}, State{}); e != api.OK || !empty(out) {
		t.Errorf("Join of two empty ones: %v, %d", out, e)
	}
}

// P11.1: a program without a class, which no call makes, does no harm.
func TestProgramWithoutClasses(t *testing.T) {
	p := new(link.Prog)
	for _, s := range []string{"LObject;", "[LObject;", "U1:LObject;", "", "V"} {
		if May(p, s) || Fits(p, s, s) || Merge(p, s, s) != "" {
			t.Errorf("%q: something is told of it", s)
		}
	}
	if !May(p, "I") || !May(p, "[I") {
		t.Error("they have no class")
	}
}

// P11.1: Made, rows written out.
func TestMade(t *testing.T) {
	for _, c := range []struct {
		pc          int
		class, want string
	}{
		{0, "A", "U0:LA;"}, {9, "A", "U9:LA;"}, {10, "A", "U10:LA;"}, {199, "Q", "U199:LQ;"}, {200, "_", "U200:L_;"}, {1 << 31, "I", "U2147483648:LI;"}, {1 << 40, "T", "U1099511627776:LT;"}, {math.MaxInt, "A", "U9223372036854775807:LA;"},
		{1, strings.Repeat("x", api.MaxName), "U1:L" + strings.Repeat("x", api.MaxName) + ";"}, {1, "U1", "U1:LU1;"}, {7, "L", "U7:LL;"},
		{-1, "A", ""}, {-10, "A", ""}, {math.MinInt, "A", ""}, {-1, "", ""},
	} {
		if got := Made(c.pc, c.class); got != c.want {
			t.Errorf("Made(%d, %q) is %q, want %q", c.pc, c.class, got, c.want)
		}
	}
	for _, s := range []string{"", "9", "9A", "A;", "LA;", "[A", "[LA;", "A B", " A", "A ", "A:", "é", "\xff", "A\x00", "<init>", "U1:LA;", "A;LB", strings.Repeat("x", api.MaxName+1), strings.Repeat("x", 1<<16)} {
		for _, pc := range []int{-1, 0, 1, math.MaxInt} {
			if got := Made(pc, s); got != "" {
				t.Errorf("%.40q is no name, but Made tells %.60q", s, got)
			}
		}
	}
}

// P11.1: Of what Made told.
func TestOfMade(t *testing.T) {
	for _, pc := range places() {
		for _, name := range []string{"A", "a", "_", "L", "U", "U1", "T", "N", "Object", "Q", strings.Repeat("x", api.MaxName)} {
			s := Made(pc, name)
			at, of, ok := Of(s)
			if at != pc || of != name || !ok {
				t.Errorf("Of(%q) is %d, %q, %v", s, at, of, ok)
			}
		}
	}
	for pc := range 2000 {
		if at, of, ok := Of(Made(pc, "A")); at != pc || of != "A" || !ok {
			t.Errorf("Of(Made(%d)) is %d, %q, %v", pc, at, of, ok)
		}
	}
}

// P11.1: Of of what is none.
func TestOfNone(t *testing.T) {
	l := append(notMade(), "T", "I", "C", "N", "V", "LLeaf;", "[LLeaf;", "[I", "LU1;")
	for _, s := range l {
		if pc, name, ok := Of(s); pc != 0 || name != "" || ok {
			t.Errorf("Of(%.60q) is %d, %q, %v", s, pc, name, ok)
		}
	}
}

// P11.1: Of of every short text against a pattern.
func TestOfShort(t *testing.T) {
	form := regexp.MustCompile(`^U(0|[1-9][0-9]*):L([A-Za-z_][A-Za-z0-9_]*);$`)
	made := 0
	ask := func(s string) {
		wantPC, wantName := 0, ""
		part := form.FindStringSubmatch(s)
		if part != nil {
			made++
			wantPC, _ = strconv.Atoi(part[1])
			wantName = part[2]
		}
		if pc, name, ok := Of(s); pc != wantPC || name != wantName || ok != (part != nil) {
			t.Fatalf("Of(%q) is %d, %q, %v", s, pc, name, ok)
		}
	}
	each("", "U01:L;A-+[", 5, ask)
	each("U", "01:L;A-", 7, ask)
	each("U1", "0:L;A_[", 6, ask)
	if made < 150 {
		t.Errorf("only %d of the texts were made types", made)
	}
}

// each goes through all texts of up to so many signs behind a beginning.
func each(s, signs string, more int, ask func(string)) {
	ask(s)
	if more == 0 {
		return
	}
	for i := range len(signs) {
		each(s+signs[i:i+1], signs, more-1, ask)
	}
}

// empty tells whether nothing stands anywhere.
func empty(s State) bool { return len(s.Locals) == 0 && len(s.Stack) == 0 }
