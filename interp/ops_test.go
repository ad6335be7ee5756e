package interp

import (
	"math"
	"testing"

	"lantern/api"
)

// opRow is code that lays values, an instruction behind it, and what then stands on the stack; to is the place then, 0 of the next one.
type opRow struct {
	name string
	lay  []api.Instr
	x    api.Instr
	want []api.Value
	to   int
}

func (r opRow) holds(t *testing.T) {
	t.Helper()
	t.Run(r.name, func(t *testing.T) {
		t.Helper()
		place := len(r.lay)
		m := begun(t, api.Script{}, main(code(r.lay, r.x, nop, nop, back)), sample())
		m.Run(place)
		before := last(t, m)
		if m.Step() != Runs {
			t.Fatalf("State %d", m.State())
		}
		f := last(t, m)
		if r.to == 0 {
			r.to = place + 1
		}
		values(t, "stack", f.Stack, r.want)
		if r.x.Op != api.Store {
			values(t, "locals", f.Locals, before.Locals)
		}
		if before.PC != place || f.PC != r.to || f.Method != entry || m.Steps() != place+1 || len(m.Events()) != 0 {
			t.Errorf("from %d to %d of %s, %d steps, events %v; want to %d", before.PC, f.PC, f.Method, m.Steps(), shown(m), r.to)
		}
	})
}

// sample is a class with fields of each Kind.
func sample() api.Class {
	return class("A", "Object", own("i", "I"), own("c", "C"), own("a", "LA;"), own("l", "[I"), shared("si", "I"), shared("sc", "C"), shared("sa", "LA;"), birth)
}

// P10.1: constants, locals, and what turns the stack.
func TestStackOps(t *testing.T) {
	zero := make([]api.Instr, 0)
	for _, r := range []opRow{
		{"nop", zero, nop, nil, 0},
		{"nop on a value", code(num(4)), nop, []api.Value{vInt(4)}, 0},
		{"iconst", zero, num(5), []api.Value{vInt(5)}, 0},
		{"least iconst", zero, num(math.MinInt32), []api.Value{vInt(math.MinInt32)}, 0},
		{"greatest iconst", code(num(1)), num(math.MaxInt32), []api.Value{vInt(1), vInt(math.MaxInt32)}, 0},
		{"cconst", zero, in(api.Cconst, 3, -4), []api.Value{vCpx(3 - 4i)}, 0},
		{"cconst of 0", zero, in(api.Cconst, 0, 0), []api.Value{vCpx(0)}, 0},
		{"greatest cconst", zero, in(api.Cconst, math.MaxInt32, math.MinInt32), []api.Value{vCpx(complex(math.MaxInt32, math.MinInt32))}, 0},
		{"null", zero, null, []api.Value{vRef(0)}, 0},
		{"load of a local at first", zero, in(api.Load, 5), []api.Value{vInt(0)}, 0},
		{"load of an int", code(num(7), in(api.Store, 2), num(8)), in(api.Load, 2), []api.Value{vInt(8), vInt(7)}, 0},
		{"load of a complex number", code(in(api.Cconst, 1, 2), in(api.Store, 0)), in(api.Load, 0), []api.Value{vCpx(1 + 2i)}, 0},
		{"load of a reference", code(made("A"), in(api.Store, 0)), in(api.Load, 0), []api.Value{vRef(1)}, 0},
		{"pop of an int", code(null, num(1)), pop, []api.Value{vRef(0)}, 0},
		{"pop of a complex number", code(null, in(api.Cconst, 1, 1)), pop, []api.Value{vRef(0)}, 0},
		{"pop of a reference", code(num(3), made("A")), pop, []api.Value{vInt(3)}, 0},
		{"dup of an int", code(num(3)), dup, []api.Value{vInt(3), vInt(3)}, 0},
		{"dup of a complex number", code(num(3), in(api.Cconst, 1, 2)), dup, []api.Value{vInt(3), vCpx(1 + 2i), vCpx(1 + 2i)}, 0},
		{"dup of a reference", code(made("A")), dup, []api.Value{vRef(1), vRef(1)}, 0},
		{"swap of ints", code(num(0), num(1), num(2)), in(api.Swap), []api.Value{vInt(0), vInt(2), vInt(1)}, 0},
		{"swap of two Kinds", code(made("A"), in(api.Cconst, 1, 2)), in(api.Swap), []api.Value{vCpx(1 + 2i), vRef(1)}, 0},
	} {
		r.holds(t)
	}
}

// P10.1: a Store takes whatever there is.
func TestStore(t *testing.T) {
	for _, c := range []struct {
		lay  api.Instr
		want api.Value
	}{{num(-3), vInt(-3)}, {in(api.Cconst, 1, 2), vCpx(1 + 2i)}, {null, vRef(0)}, {made("A"), vRef(1)}} {
		for _, local := range []int{0, 3, 5} {
			m := begun(t, api.Script{}, main(code(num(9), in(api.Store, 4), num(8), c.lay, in(api.Store, local), back)), sample())
			m.Run(5)
			want := []api.Value{vInt(0), vInt(0), vInt(0), vInt(0), vInt(9), vInt(0)}
			want[local] = c.want
			f := last(t, m)
			values(t, "locals", f.Locals, want)
			values(t, "stack", f.Stack, []api.Value{vInt(8)})
		}
	}
}

// P10.1: ints are reckoned with as chapter 3 has it, the lower value first.
func TestInts(t *testing.T) {
	for _, c := range []struct{ op, a, b, want int }{
		{api.Iadd, 2, 3, 5}, {api.Iadd, math.MaxInt32, 1, math.MinInt32}, {api.Iadd, math.MinInt32, -1, math.MaxInt32}, {api.Iadd, -5, 5, 0},
		{api.Isub, 2, 3, -1}, {api.Isub, 3, 2, 1}, {api.Isub, math.MinInt32, 1, math.MaxInt32}, {api.Isub, 0, math.MinInt32, math.MinInt32},
		{api.Imul, -4, 3, -12}, {api.Imul, 1 << 16, 1 << 16, 0}, {api.Imul, 1 << 16, 1 << 15, math.MinInt32}, {api.Imul, math.MinInt32, -1, math.MinInt32},
		{api.Idiv, 7, 2, 3}, {api.Idiv, 2, 7, 0}, {api.Idiv, -7, 2, -3}, {api.Idiv, 7, -2, -3}, {api.Idiv, 0, 5, 0}, {api.Idiv, math.MinInt32, -1, math.MinInt32}, {api.Idiv, math.MinInt32, 1, math.MinInt32},
	} {
		opRow{"", code(null, num(c.a), num(c.b)), in(c.op), []api.Value{vRef(0), vInt(c.want)}, 0}.holds(t)
	}
}

// P10.1: an Idiv by 0.
func TestDivByZero(t *testing.T) {
	for _, n := range []int{0, 1, -1, math.MinInt32} {
		m := plain(t, main(code(num(n), num(0), in(api.Idiv), keep, back)))
		dies(t, m, "ArithEx")
		shows(t, m, "throw M.main()V 2 ArithEx")
	}
}

// big is a complex number whose parts are n times that of the row, by so many products with n.
func big(lay api.Instr, n, times int) []api.Instr {
	l := code(lay)
	for range times {
		l = code(l, in(api.Cconst, n, 0), in(api.Cmul))
	}
	return l
}

// P10.1: complex numbers are added and multiplied, part by part, and asked for their real part.
func TestComplex(t *testing.T) {
	c := func(a, b int) api.Instr { return in(api.Cconst, a, b) }
	inf := math.Inf(1)
	for _, r := range []opRow{
		{"sum", code(null, c(1, 2), c(3, -5)), in(api.Cadd), []api.Value{vRef(0), vCpx(4 - 3i)}, 0},
		{"sum past ints", code(c(math.MaxInt32, math.MinInt32), c(math.MaxInt32, math.MinInt32)), in(api.Cadd), []api.Value{vCpx(complex(1<<32-2, -1<<32))}, 0},
		{"product", code(null, c(1, 2), c(3, -1)), in(api.Cmul), []api.Value{vRef(0), vCpx(5 + 5i)}, 0},
		{"square of i", code(c(0, 1), c(0, 1)), in(api.Cmul), []api.Value{vCpx(-1)}, 0},
		{"square of 1 + i", code(c(1, 1), c(1, 1)), in(api.Cmul), []api.Value{vCpx(2i)}, 0},
		{"rounded", code(big(c(1<<30+1, 0), 1<<30+1, 1), c(3, 1)), in(api.Cmul), []api.Value{vCpx(complex(3*rounded(1<<30+1), rounded(1<<30+1)))}, 0},
		{"infinite", big(c(1<<30, 0), 1<<30, 34), nop, []api.Value{vCpx(complex(inf, 0))}, 0},
		{"no number", code(big(c(1<<30, 0), 1<<30, 34), c(0, 1)), in(api.Cmul), []api.Value{vCpx(complex(math.NaN(), inf))}, 0},
		{"real part", code(null, c(-7, 9)), in(api.Cre), []api.Value{vRef(0), vInt(-7)}, 0},
		{"least real part", code(c(math.MinInt32, 9)), in(api.Cre), []api.Value{vInt(math.MinInt32)}, 0},
		{"real part of 2^31", code(c(math.MaxInt32, 0), c(1, 5), in(api.Cadd)), in(api.Cre), []api.Value{vInt(0)}, 0},
		{"real part below -2^31", code(c(math.MinInt32, 0), c(-1, 5), in(api.Cadd)), in(api.Cre), []api.Value{vInt(0)}, 0},
		{"real part of what is infinite", big(c(1<<30, 0), 1<<30, 34), in(api.Cre), []api.Value{vInt(0)}, 0},
		{"real part of no number", code(big(c(1<<30, 0), 1<<30, 34), c(0, 1), in(api.Cmul)), in(api.Cre), []api.Value{vInt(0)}, 0},
	} {
		r.holds(t)
	}
}

// rounded is n times n.
func rounded(n float64) float64 { return float64(n * n) }

// P10.1: jumps, forth and back.
func TestJumps(t *testing.T) {
	zero := make([]api.Instr, 0)
	a := code(made("A"), in(api.Store, 0))
	for _, r := range []opRow{
		{"goto", zero, in(api.Goto, 2), nil, 2},
		{"goto itself", code(nop, num(3)), in(api.Goto, 2), []api.Value{vInt(3)}, 2},
		{"goto back", code(nop, nop, num(3)), in(api.Goto, 1), []api.Value{vInt(3)}, 1},
		{"ifzero of 0", code(null, num(0)), in(api.Ifzero, 4), []api.Value{vRef(0)}, 4},
		{"ifzero of 0 back", code(nop, null, num(0)), in(api.Ifzero, 1), []api.Value{vRef(0)}, 1},
		{"ifzero of 1", code(null, num(1)), in(api.Ifzero, 4), []api.Value{vRef(0)}, 0},
		{"ifzero of -1", code(num(-1)), in(api.Ifzero, 3), nil, 0},
		{"ifzero of the least", code(num(math.MinInt32)), in(api.Ifzero, 3), nil, 0},
		{"ifnull of null", code(num(1), null), in(api.Ifnull, 4), []api.Value{vInt(1)}, 4},
		{"ifnull of an object", code(made("A")), in(api.Ifnull, 3), nil, 0},
		{"ifnull of an array", list(0, "I"), in(api.Ifnull, 4), nil, 0},
		{"ifsame of two null", code(num(1), null, null), in(api.Ifsame, 5), []api.Value{vInt(1)}, 5},
		{"ifsame of null and an object", code(null, made("A")), in(api.Ifsame, 4), nil, 0},
		{"ifsame of an object and null", code(made("A"), null), in(api.Ifsame, 4), nil, 0},
		{"ifsame of the same object", code(a, in(api.Load, 0), in(api.Load, 0)), in(api.Ifsame, 6), nil, 6},
		{"ifsame of two objects", code(made("A"), made("A")), in(api.Ifsame, 4), nil, 0},
		{"ifsame of two arrays", code(list(1, "I"), list(1, "I")), in(api.Ifsame, 6), nil, 0},
	} {
		r.holds(t)
	}
}

// P10.1: a loop.
func TestLoop(t *testing.T) {
	m := plain(t, main(code(
		num(5), in(api.Store, 0), num(1), in(api.Store, 1),
		in(api.Load, 0), in(api.Ifzero, 15),
		in(api.Load, 1), in(api.Load, 0), in(api.Imul), in(api.Store, 1),
		in(api.Load, 0), num(1), in(api.Isub), in(api.Store, 0), in(api.Goto, 4),
		in(api.Load, 1), keep, back)))
	ends(t, m, 120)
	same(t, "Steps", m.Steps(), 4+5*11+2+3)
}
