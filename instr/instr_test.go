package instr

import (
	"go/ast"
	"go/parser"
	"go/token"
	"math"
	"slices"
	"strconv"
	"strings"
	"testing"

	"lantern/api"
)

const (
	least = -1 << 31
	most  = 1<<31 - 1
)

// What the instructions of these tests stand in, unless a test says otherwise.
const (
	length = 5
	locals = 3
)

// opNames are api's own names, by their numbers, as its text has them.
func opNames(t *testing.T) map[int]string {
	t.Helper()
	file, err := parser.ParseFile(token.NewFileSet(), "../api/api.go", nil, 0)
	if err != nil {
		t.Fatal(err)
	}
	for _, d := range file.Decls {
		g, ok := d.(*ast.GenDecl)
		if !ok || g.Tok != token.CONST || g.Specs[0].(*ast.ValueSpec).Names[0].Name != "Nop" {
			continue
		}
		names := map[int]string{}
		for _, s := range g.Specs {
			v := s.(*ast.ValueSpec)
			n, err := strconv.Atoi(v.Values[0].(*ast.BasicLit).Value)
			if err != nil {
				t.Fatal(err)
			}
			if v.Names[0].Name != "Ops" {
				names[n] = v.Names[0].Name
			}
		}
		if len(names) != api.Ops {
			t.Fatalf("api has %d names, and says %d", len(names), api.Ops)
		}
		return names
	}
	t.Fatal("api has no operations")
	return nil
}

// byName reads a list of names of the document, each name one of api's.
func byName(t *testing.T, list string) []int {
	t.Helper()
	names := opNames(t)
	var l []int
	for _, name := range strings.Split(list, ", ") {
		found := 0
		for op, n := range names {
			if n == name {
				found = op
			}
		}
		if found == 0 {
			t.Fatalf("%q is none of api's names", name)
		}
		l = append(l, found)
	}
	return l
}

func allOps() []int {
	var l []int
	for op := 1; op <= api.Ops; op++ {
		l = append(l, op)
	}
	return l
}

// noOps are numbers that are none: beside the first and the last one, and those that would be one if they were cut to fewer digits.
func noOps() []int {
	return []int{0, -1, -2, api.Ops + 1, api.Ops + 2, 77, -api.Nop, -api.Throw, 256, 256 + api.Nop, 1<<16 + api.Iconst, 1<<32 + api.Nop, 1<<32 + api.Callstatic, least, most, math.MinInt, math.MinInt + api.Nop, math.MaxInt}
}

func fields() []int {
	return []int{api.Getfield, api.Putfield, api.Getstatic, api.Putstatic}
}

func calls() []int {
	return []int{api.Callstatic, api.Callspecial, api.Callvirtual, api.Callinterface}
}

func jumps() []int {
	return []int{api.Goto, api.Ifzero, api.Ifnull, api.Ifsame}
}

// good is an instruction that may be, with what its Op has, and zeros else.
func good(op int) api.Instr {
	x := api.Instr{Op: op}
	switch op {
	case api.Iconst, api.Load, api.Store, api.Goto, api.Ifzero, api.Ifnull, api.Ifsame:
		x.A = 1
	case api.Cconst:
		x.A, x.B = 1, 2
	case api.New:
		x.Class = "A"
	case api.Newarray:
		x.Desc = "I"
	case api.Cast, api.Isinst:
		x.Desc = "LA;"
	case api.Getfield, api.Putfield, api.Getstatic, api.Putstatic:
		x.Class, x.Name, x.Desc = "A", "x", "I"
	case api.Callstatic, api.Callspecial, api.Callvirtual, api.Callinterface:
		x.Class, x.Name, x.Desc = "A", "f", "(I)V"
	}
	return x
}

// wantShapes are the document's fields by Op.
func wantShapes(t *testing.T) map[int]Shape {
	t.Helper()
	want := map[int]Shape{}
	for _, op := range byName(t, "Iconst, Load, Store, Goto, Ifzero, Ifnull, Ifsame") {
		want[op] = Shape{A: true}
	}
	for _, op := range byName(t, "Cconst") {
		want[op] = Shape{A: true, B: true}
	}
	for _, op := range byName(t, "New") {
		want[op] = Shape{Class: true}
	}
	for _, op := range byName(t, "Newarray, Cast, Isinst") {
		want[op] = Shape{Desc: true}
	}
	for _, op := range byName(t, "Getfield, Putfield, Getstatic, Putstatic, Callstatic, Callspecial, Callvirtual, Callinterface") {
		want[op] = Shape{Class: true, Name: true, Desc: true}
	}
	return want
}

func TestOf(t *testing.T) {
	want := wantShapes(t)
	for _, op := range allOps() {
		if got, ok := Of(op); got != want[op] || !ok {
			t.Errorf("P4.1: Of(%d) is %v, %t, want %v, true", op, got, ok, want[op])
		}
	}
	for _, op := range noOps() {
		if got, ok := Of(op); got != (Shape{}) || ok {
			t.Errorf("P4.1: Of(%d), which is none, is %v, %t", op, got, ok)
		}
	}
}

func TestWord(t *testing.T) {
	for op, name := range opNames(t) {
		if got, want := Word(op), strings.ToLower(name); got != want {
			t.Errorf("P4.1: Word(%d) is %q, want %q", op, got, want)
		}
	}
	for _, op := range noOps() {
		if got := Word(op); got != "" {
			t.Errorf("P4.1: Word(%d), which is none, is %q", op, got)
		}
	}
}

func TestWordsAreUnlike(t *testing.T) {
	first := map[string]int{}
	for _, op := range allOps() {
		w := Word(op)
		if first[w] != 0 || w == "" {
			t.Errorf("P4.4: the word %q of %d is none, or that of %d", w, op, first[w])
		}
		first[w] = op
	}
}

func TestEnds(t *testing.T) {
	want := byName(t, "Goto, Return, Retval, Throw")
	for _, op := range append(allOps(), noOps()...) {
		if got := Ends(op); got != slices.Contains(want, op) {
			t.Errorf("P4.1: Ends(%d) is %t", op, got)
		}
	}
}

func TestJumps(t *testing.T) {
	want := byName(t, "Goto, Ifzero, Ifnull, Ifsame")
	for _, op := range append(allOps(), noOps()...) {
		if got := Jumps(op); got != slices.Contains(want, op) {
			t.Errorf("P4.1: Jumps(%d) is %t", op, got)
		}
	}
}

func TestSame(t *testing.T) {
	shapes := wantShapes(t)
	for _, op := range append(allOps(), noOps()...) {
		x := api.Instr{Op: op, A: 1, B: 2, Class: "A", Name: "f", Desc: "I"}
		if !Same(x, x) {
			t.Errorf("P4.1: %v is not the Same as itself", x)
		}
		has := shapes[op]
		for _, c := range []struct {
			what   string
			change func(y *api.Instr)
			has    bool
		}{
			{"A", func(y *api.Instr) { y.A = 3 }, has.A},
			{"A of far more digits", func(y *api.Instr) { y.A = 1<<32 + 1 }, has.A},
			{"B", func(y *api.Instr) { y.B = 3 }, has.B},
			{"B of far more digits", func(y *api.Instr) { y.B = 1<<32 + 2 }, has.B},
			{"A and B in each other's place", func(y *api.Instr) { y.A, y.B = y.B, y.A }, has.A || has.B},
			{"Class", func(y *api.Instr) { y.Class = "B" }, has.Class},
			{"an empty Class", func(y *api.Instr) { y.Class = "" }, has.Class},
			{"Name", func(y *api.Instr) { y.Name = "g" }, has.Name},
			{"an empty Name", func(y *api.Instr) { y.Name = "" }, has.Name},
			{"Class and Name in each other's place", func(y *api.Instr) { y.Class, y.Name = y.Name, y.Class }, has.Class || has.Name},
			{"Desc", func(y *api.Instr) { y.Desc = "C" }, has.Desc},
			{"an empty Desc", func(y *api.Instr) { y.Desc = "" }, has.Desc},
		} {
			y := x
			c.change(&y)
			if Same(x, y) == c.has || Same(y, x) == c.has {
				t.Errorf("P4.1: Op %d, other in %s: Same is %t, and the other way round %t", op, c.what, Same(x, y), Same(y, x))
			}
		}
	}
}

func TestSameOfTwoOps(t *testing.T) {
	l := append(allOps(), noOps()...)
	for _, a := range l {
		for _, b := range l {
			x := api.Instr{Op: a, A: 1, B: 2, Class: "A", Name: "f", Desc: "I"}
			y := x
			y.Op = b
			if Same(x, y) != (a == b) || Same(api.Instr{Op: a}, api.Instr{Op: b}) != (a == b) {
				t.Errorf("P4.1: Ops %d and %d: Same is %t", a, b, Same(x, y))
			}
		}
	}
}

// wantCheck asks Check of an instruction within length and locals.
func wantCheck(t *testing.T, x api.Instr, want api.Errno) {
	t.Helper()
	if got := Check(x, length, locals); got != want {
		t.Errorf("P4.2: Check(%#v, %d, %d) is %d, want %d", x, length, locals, got, want)
	}
}

func TestCheckGood(t *testing.T) {
	for _, op := range allOps() {
		wantCheck(t, good(op), api.OK)
	}
}

func TestCheckTag(t *testing.T) {
	for _, op := range noOps() {
		wantCheck(t, api.Instr{Op: op}, api.ErrTag)
		wantCheck(t, api.Instr{Op: op, A: 1, B: 1, Class: "A", Name: "f", Desc: "I"}, api.ErrTag)
	}
}

func TestCheckLimit(t *testing.T) {
	within := []int{0, 1, -1, least, least + 1, most, most - 1}
	beyond := []int{least - 1, most + 1, 1 << 32, 1<<32 + 1, -1 << 32, math.MinInt, math.MaxInt}
	for _, n := range within {
		wantCheck(t, api.Instr{Op: api.Iconst, A: n}, api.OK)
		wantCheck(t, api.Instr{Op: api.Cconst, A: n}, api.OK)
		wantCheck(t, api.Instr{Op: api.Cconst, B: n}, api.OK)
		wantCheck(t, api.Instr{Op: api.Cconst, A: n, B: n}, api.OK)
	}
	for _, n := range beyond {
		wantCheck(t, api.Instr{Op: api.Iconst, A: n}, api.ErrLimit)
		wantCheck(t, api.Instr{Op: api.Cconst, A: n}, api.ErrLimit)
		wantCheck(t, api.Instr{Op: api.Cconst, B: n}, api.ErrLimit)
		wantCheck(t, api.Instr{Op: api.Cconst, A: n, B: n}, api.ErrLimit)
	}
	// A number beyond the ints is told ahead of where it leads, even if there were so many locals or places.
	for _, op := range append(jumps(), api.Load, api.Store) {
		for _, size := range []int{math.MinInt, 0, 1, most + 1, math.MaxInt} {
			for _, n := range beyond {
				if got := Check(api.Instr{Op: op, A: n}, size, size); got != api.ErrLimit {
					t.Errorf("P4.2: Op %d, A %d of %d: %d", op, n, size, got)
				}
			}
		}
		if got := Check(api.Instr{Op: op, A: most}, most+1, most+1); got != api.OK {
			t.Errorf("P4.2: Op %d, A %d of one more: %d", op, most, got)
		}
	}
}

// A field that an Op does not have may hold anything.
func TestCheckOnlyWhatItHas(t *testing.T) {
	shapes := wantShapes(t)
	for _, op := range allOps() {
		for _, n := range []int{least, most, least - 1, most + 1, -1, length, math.MinInt, math.MaxInt} {
			x := good(op)
			if !shapes[op].A {
				x.A = n
			}
			if !shapes[op].B {
				x.B = n
			}
			wantCheck(t, x, api.OK)
		}
		for _, s := range []string{"", "9", "V", "<clinit>", "\xff", "[[[[[I"} {
			x := good(op)
			if !shapes[op].Class {
				x.Class = s
			}
			if !shapes[op].Name {
				x.Name = s
			}
			if !shapes[op].Desc {
				x.Desc = s
			}
			wantCheck(t, x, api.OK)
		}
	}
}

func goodNames() []string {
	return []string{"A", "a", "_", "x9", "init", "I", strings.Repeat("x", api.MaxName)}
}

func badNames() []string {
	return []string{"", "9", "9a", "a b", "a.b", "A;", "LA;", "<x>", "<init", "<clinit>x", "\x00", "\xff", "é", strings.Repeat("x", api.MaxName+1)}
}

func badTypes() []string {
	return []string{"", "V", "A", "II", "LA", "L;", "L9;", "[", "[V", "[[[[[I", "[[[[[LA;", "I ", "()V", "(I)I", "\xff", "L" + strings.Repeat("x", api.MaxName+1) + ";"}
}

func goodMethods() []string {
	return []string{"()V", "()I", "(I)V", "(I[LA;)V", "(LA;)[[[[LA;", "(IIIIIIII)V", "(IIIIIIII)C"}
}

func badMethods() []string {
	return []string{"", "I", "V", "()", "(", "(I", "(V)V", "()VV", "()II", "(LA)V", "([[[[[I)V", "()[[[[[I", "(IIIIIIIII)V", "(IIIIIIIII)I", " ()V", "\xff"}
}

// wantText asks Check of an instruction whose texts are each put in by put, one by one.
func wantText(t *testing.T, op int, texts []string, put func(x *api.Instr, s string), want api.Errno) {
	t.Helper()
	for _, s := range texts {
		x := good(op)
		put(&x, s)
		wantCheck(t, x, want)
	}
}

func putClass(x *api.Instr, s string) { x.Class = s }
func putName(x *api.Instr, s string)  { x.Name = s }
func putDesc(x *api.Instr, s string)  { x.Desc = s }

func TestCheckClass(t *testing.T) {
	for _, op := range slices.Concat([]int{api.New}, fields(), calls()) {
		wantText(t, op, goodNames(), putClass, api.OK)
		wantText(t, op, badNames(), putClass, api.ErrName)
		wantText(t, op, []string{"<init>", "<clinit>", "[I", "[LA;"}, putClass, api.ErrName)
	}
}

func TestCheckField(t *testing.T) {
	for _, op := range fields() {
		wantText(t, op, goodNames(), putName, api.OK)
		wantText(t, op, badNames(), putName, api.ErrName)
		wantText(t, op, []string{"<init>", "<clinit>"}, putName, api.ErrName)
		wantText(t, op, []string{"I", "C", "LA;", "[I", "[[[[C", "[[[[LA;"}, putDesc, api.OK)
		wantText(t, op, badTypes(), putDesc, api.ErrName)
	}
}

func TestCheckCall(t *testing.T) {
	for _, op := range calls() {
		wantText(t, op, goodNames(), putName, api.OK)
		wantText(t, op, badNames(), putName, api.ErrName)
		wantText(t, op, []string{"<clinit>"}, putName, api.ErrName)
		wantText(t, op, goodMethods(), putDesc, api.OK)
		wantText(t, op, badMethods(), putDesc, api.ErrName)
	}
	wantText(t, api.Callspecial, []string{"<init>"}, putName, api.OK)
	for _, op := range []int{api.Callstatic, api.Callvirtual, api.Callinterface} {
		wantText(t, op, []string{"<init>"}, putName, api.ErrName)
	}
	// A name that only Callspecial may call does not make up for another fault.
	for _, x := range []api.Instr{
		{Op: api.Callspecial, Class: "9", Name: "<init>", Desc: "()V"},
		{Op: api.Callspecial, Class: "A", Name: "<init>", Desc: "I"},
	} {
		wantCheck(t, x, api.ErrName)
	}
}

func TestCheckNewarray(t *testing.T) {
	wantText(t, api.Newarray, []string{"I", "C", "LA;", "[I", "[[C", "[[[I", "[[[LA;"}, putDesc, api.OK)
	wantText(t, api.Newarray, []string{"[[[[I", "[[[[C", "[[[[LA;"}, putDesc, api.ErrName)
	wantText(t, api.Newarray, badTypes(), putDesc, api.ErrName)
}

func TestCheckReference(t *testing.T) {
	for _, op := range []int{api.Cast, api.Isinst} {
		wantText(t, op, []string{"LA;", "LI;", "[I", "[C", "[LA;", "[[[[I", "[[[[LA;"}, putDesc, api.OK)
		wantText(t, op, []string{"I", "C"}, putDesc, api.ErrName)
		wantText(t, op, badTypes(), putDesc, api.ErrName)
	}
}

func TestCheckIndex(t *testing.T) {
	sizes := []int{0, 1, 2, 20, 200, most, -1, least, math.MinInt, math.MaxInt}
	for _, size := range sizes {
		for _, other := range sizes {
			for _, n := range []int{0, 1, -1, 2, 19, 20, 199, 200, most - 1, most, least} {
				want := api.OK
				if n < 0 || n >= size {
					want = api.ErrIndex
				}
				for _, op := range []int{api.Load, api.Store} {
					if got := Check(api.Instr{Op: op, A: n}, other, size); got != want {
						t.Errorf("P4.2: Op %d of local %d of %d: %d, want %d", op, n, size, got, want)
					}
				}
				for _, op := range jumps() {
					if got := Check(api.Instr{Op: op, A: n}, size, other); got != want {
						t.Errorf("P4.2: Op %d to %d of %d: %d, want %d", op, n, size, got, want)
					}
				}
			}
		}
	}
	// Those whose A leads nowhere hang neither on length nor on locals.
	for _, op := range []int{api.Iconst, api.Cconst, api.Nop, api.New, api.Return} {
		x := good(op)
		x.A = -1
		if got := Check(x, math.MinInt, math.MinInt); got != api.OK {
			t.Errorf("P4.2: Op %d in a method of nothing: %d", op, got)
		}
	}
}

func TestCheckEdgesWrittenOut(t *testing.T) {
	for _, c := range []struct {
		op, a int
		want  api.Errno
	}{
		{api.Load, -1, api.ErrIndex}, {api.Load, 0, api.OK}, {api.Load, locals - 1, api.OK}, {api.Load, locals, api.ErrIndex},
		{api.Store, -1, api.ErrIndex}, {api.Store, 0, api.OK}, {api.Store, locals - 1, api.OK}, {api.Store, locals, api.ErrIndex},
		{api.Goto, -1, api.ErrIndex}, {api.Goto, 0, api.OK}, {api.Goto, length - 1, api.OK}, {api.Goto, length, api.ErrIndex},
		{api.Ifzero, -1, api.ErrIndex}, {api.Ifzero, 0, api.OK}, {api.Ifzero, length - 1, api.OK}, {api.Ifzero, length, api.ErrIndex},
		{api.Ifnull, -1, api.ErrIndex}, {api.Ifnull, 0, api.OK}, {api.Ifnull, length - 1, api.OK}, {api.Ifnull, length, api.ErrIndex},
		{api.Ifsame, -1, api.ErrIndex}, {api.Ifsame, 0, api.OK}, {api.Ifsame, length - 1, api.OK}, {api.Ifsame, length, api.ErrIndex},
	} {
		wantCheck(t, api.Instr{Op: c.op, A: c.a}, c.want)
	}
}

// Of two faults the first is told.
func TestCheckTwoFaults(t *testing.T) {
	for _, x := range []api.Instr{
		{Op: 0, A: most + 1, B: most + 1},
		{Op: api.Ops + 1, A: -1, Class: "9", Name: "", Desc: "V"},
		{Op: -1, A: least - 1, Desc: "["},
	} {
		wantCheck(t, x, api.ErrTag)
	}
	for _, op := range append(jumps(), api.Load, api.Store) {
		wantCheck(t, api.Instr{Op: op, A: most + 1}, api.ErrLimit)
		wantCheck(t, api.Instr{Op: op, A: least - 1}, api.ErrLimit)
		wantCheck(t, api.Instr{Op: op, A: -1, B: most + 1, Class: "9", Desc: "V"}, api.ErrIndex)
	}
	wantCheck(t, api.Instr{Op: api.New, A: most + 1, B: least - 1, Class: ""}, api.ErrName)
	for _, op := range append(fields(), calls()...) {
		wantCheck(t, api.Instr{Op: op, A: most + 1}, api.ErrName)
	}
}

// wantEffects are the document's, but of calls.
func wantEffects(t *testing.T) map[int][2]int {
	t.Helper()
	want := map[int][2]int{}
	for list, effect := range map[string][2]int{
		"Nop, Goto, Return":                                    {0, 0},
		"Iconst, Cconst, Null, Load, New, Getstatic":           {0, 1},
		"Store, Pop, Ifzero, Ifnull, Putstatic, Retval, Throw": {1, 0},
		"Dup":  {1, 2},
		"Swap": {2, 2},
		"Iadd, Isub, Imul, Idiv, Cadd, Cmul, Aload":   {2, 1},
		"Cre, Newarray, Alen, Cast, Isinst, Getfield": {1, 1},
		"Ifsame, Putfield":                            {2, 0},
		"Astore":                                      {3, 0},
	} {
		for _, op := range byName(t, list) {
			want[op] = effect
		}
	}
	if len(want) != api.Ops-len(calls()) {
		t.Fatalf("%d Ops have an effect", len(want))
	}
	return want
}

func wantEffect(t *testing.T, x api.Instr, pops, pushes int, want api.Errno) {
	t.Helper()
	a, b, e := Effect(x)
	if a != pops || b != pushes || e != want {
		t.Errorf("P4.3: Effect(%#v) is %d, %d, %d, want %d, %d, %d", x, a, b, e, pops, pushes, want)
	}
}

func TestEffect(t *testing.T) {
	for op, want := range wantEffects(t) {
		wantEffect(t, good(op), want[0], want[1], api.OK)
		// Whatever the other fields are: a Check asks for them.
		wantEffect(t, api.Instr{Op: op}, want[0], want[1], api.OK)
		wantEffect(t, api.Instr{Op: op, A: math.MinInt, B: math.MaxInt, Class: "9", Name: "<clinit>", Desc: "(II)V"}, want[0], want[1], api.OK)
	}
}

func TestEffectTag(t *testing.T) {
	for _, op := range noOps() {
		wantEffect(t, api.Instr{Op: op}, 0, 0, api.ErrTag)
		wantEffect(t, api.Instr{Op: op, Class: "A", Name: "f", Desc: "(I)I"}, 0, 0, api.ErrTag)
	}
}

func TestEffectOfCalls(t *testing.T) {
	for _, op := range calls() {
		object := 1
		if op == api.Callstatic {
			object = 0
		}
		for n := range api.MaxParams + 1 {
			for _, param := range []string{"I", "C", "LA;", "[[[[LI;"} {
				params := "(" + strings.Repeat(param, n) + ")"
				wantEffect(t, api.Instr{Op: op, Class: "A", Name: "f", Desc: params + "V"}, object+n, 0, api.OK)
				for _, result := range []string{"I", "C", "LV;", "LA;", "[I", "[[[[LA;"} {
					wantEffect(t, api.Instr{Op: op, Class: "A", Name: "f", Desc: params + result}, object+n, 1, api.OK)
				}
			}
		}
		// Class and Name do not matter to it.
		wantEffect(t, api.Instr{Op: op, Desc: "(IC)I"}, object+2, 1, api.OK)
		wantEffect(t, api.Instr{Op: op, Class: "9", Name: "<clinit>", Desc: "()V", A: most + 1}, object, 0, api.OK)
		for _, s := range badMethods() {
			wantEffect(t, api.Instr{Op: op, Class: "A", Name: "f", Desc: s}, 0, 0, api.ErrName)
		}
	}
}

func TestEffectOfCallsWrittenOut(t *testing.T) {
	eight := "(" + strings.Repeat("LA;", api.MaxParams) + ")"
	for _, c := range []struct {
		op           int
		desc         string
		pops, pushes int
	}{
		{api.Callvirtual, "(I)V", 2, 0},
		{api.Callvirtual, "()V", 1, 0}, {api.Callvirtual, "()I", 1, 1}, {api.Callvirtual, eight + "V", 9, 0}, {api.Callvirtual, eight + "C", 9, 1},
		{api.Callspecial, "()V", 1, 0}, {api.Callspecial, "()I", 1, 1}, {api.Callspecial, "(I)I", 2, 1}, {api.Callspecial, eight + "V", 9, 0},
		{api.Callinterface, "()V", 1, 0}, {api.Callinterface, "()I", 1, 1}, {api.Callinterface, "(I)I", 2, 1}, {api.Callinterface, eight + "I", 9, 1},
		{api.Callstatic, "()V", 0, 0}, {api.Callstatic, "()I", 0, 1}, {api.Callstatic, "(I)V", 1, 0}, {api.Callstatic, eight + "V", 8, 0}, {api.Callstatic, eight + "I", 8, 1},
	} {
		wantEffect(t, api.Instr{Op: c.op, Class: "A", Name: "f", Desc: c.desc}, c.pops, c.pushes, api.OK)
	}
}

// Whatever Check lets through has an effect.
func TestCheckedHasEffect(t *testing.T) {
	texts := slices.Concat(goodNames(), badNames(), badTypes(), goodMethods(), badMethods(), []string{"<init>", "<clinit>", "LA;", "[I", "[[[[I"})
	for _, op := range append(allOps(), noOps()...) {
		for _, s := range texts {
			for _, x := range []api.Instr{
				{Op: op, Class: s, Name: s, Desc: s},
				{Op: op, A: -1, Class: "A", Name: "f", Desc: s},
				{Op: op, A: 1, Class: "A", Name: s, Desc: "()V"},
			} {
				checked := Check(x, length, locals)
				_, _, e := Effect(x)
				if checked == api.OK && e != api.OK || checked == api.ErrTag != (e == api.ErrTag) {
					t.Errorf("P4.2, P4.3: %#v: Check %d, Effect %d", x, checked, e)
				}
			}
		}
	}
}
