package number

import (
	"fmt"
	"math"
	"math/big"
	"testing"

	"lantern/api"
)

const (
	least = -1 << 31
	most  = 1<<31 - 1
)

// someInts stand around the edges: 0, the ints' ends, one turn of 32 digits and more, and the ends of Go's own ints.
func someInts() []int {
	var l []int
	for _, n := range []int{0, 1 << 15, 1 << 16, 46341, 1 << 30, 1 << 31, 1 << 32, 3 << 31, 1 << 33, 1<<40 + 7, 1 << 62} {
		l = append(l, n-2, n-1, n, n+1, n+2, -n-2, -n-1, -n, -n+1, -n+2)
	}
	return append(l, 7, -7, 10, -10, 65537, math.MaxInt, math.MaxInt-1, math.MinInt, math.MinInt+1, 0x123456789abcdef, -0x123456789abcdef)
}

// turned is the promise's Wrap on numbers of any length: what is left of turns of 2^32, from least to most.
func turned(n *big.Int) *big.Int {
	half := big.NewInt(1 << 31)
	m := new(big.Int).Add(n, half)
	m.Mod(m, big.NewInt(1<<32))
	return m.Sub(m, half)
}

func turnedInt(n int) *big.Int { return turned(big.NewInt(int64(n))) }

func TestWrap(t *testing.T) {
	for _, c := range []struct{ n, want int }{
		{0, 0}, {5, 5}, {-5, -5}, {most, most}, {least, least},
		{most + 1, least}, {most + 2, least + 1}, {least - 1, most}, {least - 2, most - 1},
		{1 << 32, 0}, {1<<32 - 1, -1}, {1<<32 + 1, 1}, {-1 << 32, 0}, {-1<<32 - 1, -1}, {-1<<32 + 1, 1},
		{1<<40 + 7, 7}, {-1<<40 - 7, -7}, {3 << 31, least}, {math.MaxInt, -1}, {math.MinInt, 0}, {math.MinInt + 1, 1},
	} {
		if got := Wrap(c.n); got != c.want {
			t.Errorf("P3.1: Wrap(%d) is %d, want %d", c.n, got, c.want)
		}
	}
	for _, n := range someInts() {
		got := Wrap(n)
		if int64(got) != turnedInt(n).Int64() {
			t.Errorf("P3.1: Wrap(%d) is %d, want %d", n, got, turnedInt(n))
		}
		if uint32(got) != uint32(n) || got < least || got > most {
			t.Errorf("P3.1: Wrap(%d) is %d: other digits, or no int", n, got)
		}
	}
}

func TestWrapOfWrap(t *testing.T) {
	for _, n := range someInts() {
		once := Wrap(n)
		if twice := Wrap(once); twice != once {
			t.Errorf("P3.4: Wrap(%d) is %d, but the Wrap of that is %d", n, once, twice)
		}
	}
}

// TestSums holds Add, Sub and Mul against numbers of any length, for each pair.
func TestSums(t *testing.T) {
	calls := []struct {
		name string
		call func(a, b int) int
		want func(z, x, y *big.Int) *big.Int
	}{
		{"Add", Add, (*big.Int).Add},
		{"Sub", Sub, (*big.Int).Sub},
		{"Mul", Mul, (*big.Int).Mul},
	}
	for _, c := range calls {
		for _, a := range someInts() {
			for _, b := range someInts() {
				want := turned(c.want(new(big.Int), turnedInt(a), turnedInt(b)))
				if got := c.call(a, b); int64(got) != want.Int64() {
					t.Errorf("P3.1: %s(%d, %d) is %d, want %d", c.name, a, b, got, want)
				}
			}
		}
	}
}

func TestSumsWrittenOut(t *testing.T) {
	for _, c := range []struct {
		what      string
		got, want int
	}{
		{"2 + 3", Add(2, 3), 5},
		{"2 - 3", Sub(2, 3), -1},
		{"-2 * 3", Mul(-2, 3), -6},
		{"most + 1", Add(most, 1), least},
		{"least + -1", Add(least, -1), most},
		{"most + most", Add(most, most), -2},
		{"least + least", Add(least, least), 0},
		{"most - -1", Sub(most, -1), least},
		{"least - 1", Sub(least, 1), most},
		{"0 - least", Sub(0, least), least},
		{"2^20 * 2^20", Mul(1<<20, 1<<20), 0},
		{"65537 * 65537", Mul(65537, 65537), 131073},
		{"least * -1", Mul(least, -1), least},
		{"least * least", Mul(least, least), 0},
		{"most * most", Mul(most, most), 1},
		{"2^32 + 3", Add(1<<32, 3), 3},
		{"far beyond", Add(math.MaxInt, math.MaxInt), -2},
		{"far below", Sub(math.MinInt, math.MaxInt), 1},
	} {
		if c.got != c.want {
			t.Errorf("P3.1: %s is %d, want %d", c.what, c.got, c.want)
		}
	}
}

func TestDiv(t *testing.T) {
	for _, c := range []struct{ a, b, want int }{
		{7, 2, 3}, {-7, 2, -3}, {7, -2, -3}, {-7, -2, 3},
		{6, 2, 3}, {-6, 2, -3}, {6, -2, -3}, {-6, -2, 3},
		{1, 2, 0}, {-1, 2, 0}, {1, -2, 0}, {-1, -2, 0}, {0, 5, 0}, {0, -5, 0},
		{least, -1, least}, {least, 1, least}, {most, -1, -most}, {least, least, 1}, {most, least, 0}, {least, most, -1},
		{most + 1, -1, least},         // the Wrap of a is least
		{most + 1, 2, -(1 << 30)},     // 2^30, if a were not wrapped
		{1 << 32, 3, 0},               // a's Wrap is 0
		{1<<32 + 9, 3, 3},             // a's Wrap is 9
		{9, 1<<32 + 3, 3},             // b's Wrap is 3
		{9, 1<<32 - 1, -9},            // b's Wrap is -1
		{least, 1<<32 - 1, least},     // b's Wrap is -1
		{math.MinInt + 8, -2, -4},     // a's Wrap is 8
		{math.MaxInt, math.MaxInt, 1}, // -1 by -1
	} {
		if got, ok := Div(c.a, c.b); got != c.want || !ok {
			t.Errorf("P3.1: Div(%d, %d) is %d, %t, want %d, true", c.a, c.b, got, ok, c.want)
		}
	}
}

func TestDivByNothing(t *testing.T) {
	for _, b := range []int{0, 1 << 32, -1 << 32, 1 << 33, 5 << 32, 1 << 62, math.MinInt} {
		for _, a := range []int{0, 1, -1, 7, most, least, 1 << 32, math.MaxInt, math.MinInt} {
			if got, ok := Div(a, b); got != 0 || ok {
				t.Errorf("P3.1: Div(%d, %d) is %d, %t, want 0, false", a, b, got, ok)
			}
		}
	}
}

// TestDivOfAll holds Div against numbers of any length, for each pair.
func TestDivOfAll(t *testing.T) {
	for _, a := range someInts() {
		for _, b := range someInts() {
			got, ok := Div(a, b)
			divisor := turnedInt(b)
			if ok != (divisor.Sign() != 0) {
				t.Errorf("P3.1: Div(%d, %d) tells %t", a, b, ok)
			}
			if !ok {
				continue
			}
			if want := turned(new(big.Int).Quo(turnedInt(a), divisor)); int64(got) != want.Int64() {
				t.Errorf("P3.1: Div(%d, %d) is %d, want %d", a, b, got, want)
			}
		}
	}
}

// bits is c, so that two NaNs, and two zeros of other signs, can be told from each other and from all else.
func bits(c complex128) string {
	part := func(x float64) string {
		if x != x {
			return "NaN"
		}
		return fmt.Sprintf("%016x", math.Float64bits(x))
	}
	return part(real(c)) + " " + part(imag(c))
}

func isComplex(t *testing.T, what string, got, want complex128) {
	t.Helper()
	if bits(got) != bits(want) {
		t.Errorf("P3.2: %s is %v (%s), want %v (%s)", what, got, bits(got), want, bits(want))
	}
}

var (
	nan    = math.NaN()
	inf    = math.Inf(1)
	minus0 = math.Copysign(0, -1)
)

func TestComplex(t *testing.T) {
	for _, c := range []struct {
		re, im int
		want   complex128
	}{
		{0, 0, 0}, {1, -2, 1 - 2i}, {-3, 4, -3 + 4i}, {0, 1, 1i}, {1, 0, 1},
		{most, least, complex(2147483647, -2147483648)},
		{most + 1, least - 1, complex(-2147483648, 2147483647)},
		{least - 1, most + 1, complex(2147483647, -2147483648)},
		{1<<32 + 1, 1 << 31, complex(1, -2147483648)},
		{math.MaxInt, math.MinInt, complex(-1, 0)},
		{1 << 40, 1<<53 + 1, complex(0, 1)}, // a float64 of 2^53 + 1 would be 2^53: it is wrapped ahead of that
	} {
		isComplex(t, fmt.Sprintf("Complex(%d, %d)", c.re, c.im), Complex(c.re, c.im), c.want)
	}
}

func TestCAdd(t *testing.T) {
	for _, c := range []struct{ a, b, want complex128 }{
		{1 + 2i, 3 - 5i, 4 - 3i},
		{0, 0, 0},
		{0.5 + 0.25i, -0.5 - 0.25i, 0},
		{complex(minus0, minus0), complex(minus0, minus0), complex(minus0, minus0)},
		{complex(minus0, 0), complex(0, minus0), 0},
		{0x1p53, 1, 0x1p53}, // rounded
		{complex(math.MaxFloat64, 1), complex(math.MaxFloat64, 2), complex(inf, 3)},
		{complex(inf, 1), complex(-inf, 2), complex(nan, 3)},
		{complex(nan, 1), complex(1, inf), complex(nan, inf)},
		{complex(2147483647, 0), 1, 2147483648}, // no int: it is not wrapped
	} {
		isComplex(t, fmt.Sprintf("CAdd(%v, %v)", c.a, c.b), CAdd(c.a, c.b), c.want)
	}
}

func TestCMul(t *testing.T) {
	for _, c := range []struct{ a, b, want complex128 }{
		{1 + 1i, 1 + 1i, 2i},
		{2 + 3i, 4 - 5i, 23 + 2i},
		{2 + 3i, 7, 14 + 21i},
		{2 + 3i, 7i, -21 + 14i},
		{1i, 1i, -1},
		{0.5 + 0.25i, 4 - 8i, 4 - 3i},
		{0, -1, complex(minus0, 0)},
		{0, -1i, 0},
		{complex(inf, 0), 1i, complex(nan, inf)},
		{complex(math.MaxFloat64, math.MaxFloat64), 2 + 2i, complex(nan, inf)},
		{complex(nan, 1), 1, complex(nan, nan)},
		{complex(2147483647, 0), 2, 4294967294}, // no int: it is not wrapped
	} {
		isComplex(t, fmt.Sprintf("CMul(%v, %v)", c.a, c.b), CMul(c.a, c.b), c.want)
	}
}

// rounded is a product, or a sum, that is worked out whole and then cut to the digits of a float64.
func rounded(call func(z, x, y *big.Float) *big.Float, x, y float64) float64 {
	z := call(new(big.Float).SetPrec(2000), big.NewFloat(x), big.NewFloat(y))
	f, _ := z.Float64()
	return f
}

// manyParts are floats with all their digits in use, always the same ones.
func manyParts(n int) []float64 {
	l := make([]float64, n)
	state := uint64(1)
	for i := range l {
		state = state*6364136223846793005 + 1442695040888963407
		l[i] = 1 + float64(state>>12)/(1<<52)
		if state>>11&1 == 1 {
			l[i] = -l[i]
		}
	}
	return l
}

// TestCMulRoundsEachProduct holds CMul against products that are rounded one by one, and asks that the inputs tell those from all that are rounded together.
func TestCMulRoundsEachProduct(t *testing.T) {
	l := manyParts(400)
	differ := make([]int, 4)
	for i := 0; i+3 < len(l); i++ {
		ra, ia, rb, ib := l[i], l[i+1], l[i+2], l[i+3]
		mul, add, sub := (*big.Float).Mul, (*big.Float).Add, (*big.Float).Sub
		rr, ii, ri, ir := rounded(mul, ra, rb), rounded(mul, ia, ib), rounded(mul, ra, ib), rounded(mul, ia, rb)
		want := complex(rounded(sub, rr, ii), rounded(add, ri, ir))
		isComplex(t, fmt.Sprintf("CMul(%v, %v)", complex(ra, ia), complex(rb, ib)), CMul(complex(ra, ia), complex(rb, ib)), want)
		for way, differs := range []bool{
			math.FMA(ra, rb, -ii) != real(want),
			math.FMA(-ia, ib, rr) != real(want),
			math.FMA(ra, ib, ir) != imag(want),
			math.FMA(ia, rb, ri) != imag(want),
		} {
			if differs {
				differ[way]++
			}
		}
	}
	for way, n := range differ {
		if n == 0 {
			t.Errorf("no input tells way %d of rounding together from the promise's", way)
		}
	}
}

func TestCMulRoundsToNothing(t *testing.T) {
	x := 1 + 0x1p-30
	isComplex(t, "the square of x + xi", CMul(complex(x, x), complex(x, x)), complex(0, 2*(1+0x1p-29)))
	isComplex(t, "x + xi times x - xi", CMul(complex(x, x), complex(x, -x)), complex(2*(1+0x1p-29), 0))
}

func TestReal(t *testing.T) {
	for _, c := range []struct {
		re   float64
		want int
	}{
		{0, 0}, {minus0, 0}, {1, 1}, {-1, -1}, {2.9, 2}, {-2.9, -2}, {0.999, 0}, {-0.999, 0}, {2.5, 2}, {3.5, 3}, {-2.5, -2},
		{2147483646, most - 1}, {2147483647, most}, {2147483647.5, most}, {math.Nextafter(1<<31, 0), most},
		{1 << 31, 0}, {math.Nextafter(1<<31, inf), 0}, {2147483648.5, 0}, {2147483649, 0}, {1<<32 + 1, 0},
		{-2147483647.5, -most}, {-2147483648, least}, {math.Nextafter(-1<<31, 0), -most},
		{math.Nextafter(-1<<31, -inf), 0}, {-2147483648.5, 0}, {-2147483649, 0}, {-1<<32 - 1, 0},
		{nan, 0}, {-nan, 0}, {inf, 0}, {-inf, 0}, {math.MaxFloat64, 0}, {-math.MaxFloat64, 0}, {math.SmallestNonzeroFloat64, 0},
		{1 << 62, 0}, {1 << 63, 0}, {1 << 64, 0}, {1<<40 + 7, 0},
	} {
		for _, im := range []float64{0, 1, -7.5, 1 << 31, nan, inf, -inf} {
			if got := Real(complex(c.re, im)); got != c.want {
				t.Errorf("P3.2: Real(%v) is %d, want %d", complex(c.re, im), got, c.want)
			}
		}
	}
}

func value(kind, n int, c complex128) api.Value { return api.Value{Kind: kind, N: n, C: c} }

func TestSame(t *testing.T) {
	otherNaN := math.Float64frombits(math.Float64bits(nan) ^ 1<<63 ^ 6)
	cpx := func(re, im float64) api.Value { return value(api.VCpx, 0, complex(re, im)) }
	for _, c := range []struct {
		a, b api.Value
		want bool
	}{
		{value(api.VInt, 1, 0), value(api.VInt, 1, 0), true},
		{value(api.VInt, 1, 0), value(api.VInt, 2, 0), false},
		{value(api.VInt, 1, 0), value(api.VInt, -1, 0), false},
		{value(api.VInt, 1, 0), value(api.VInt, 1<<32+1, 0), false},
		{value(api.VInt, 1, 0), value(api.VInt, 1, 5), true},
		{value(api.VInt, 1, complex(nan, 0)), value(api.VInt, 1, 0), true},
		{value(api.VRef, 1, 0), value(api.VRef, 1, 0), true},
		{value(api.VRef, 1, 0), value(api.VRef, 2, 0), false},
		{value(api.VRef, 0, 0), value(api.VRef, 0, 3i), true},
		{value(api.VInt, 1, 0), value(api.VRef, 1, 0), false},
		{value(api.VInt, 0, 0), value(api.VRef, 0, 0), false},
		{value(api.VInt, 0, 0), value(api.VCpx, 0, 0), false},
		{value(api.VCpx, 0, 0), value(api.VRef, 0, 0), false},
		{value(api.VCpx, 1, 2i), value(api.VCpx, 7, 2i), true},
		{cpx(1, 2), cpx(1, 2), true},
		{cpx(1, 2), cpx(3, 2), false},
		{cpx(1, 2), cpx(1, 3), false},
		{cpx(1, 2), cpx(2, 1), false},
		{cpx(1, 2), cpx(math.Nextafter(1, 2), 2), false},
		{cpx(0, 0), cpx(0, 0), true},
		{cpx(0, 0), cpx(minus0, 0), false},
		{cpx(0, 0), cpx(0, minus0), false},
		{cpx(minus0, minus0), cpx(minus0, minus0), true},
		{cpx(inf, 0), cpx(inf, 0), true},
		{cpx(inf, 0), cpx(-inf, 0), false},
		{cpx(nan, 0), cpx(nan, 0), true},
		{cpx(0, nan), cpx(0, nan), true},
		{cpx(nan, nan), cpx(nan, nan), true},
		{cpx(nan, nan), cpx(otherNaN, otherNaN), true},
		{cpx(nan, 0), cpx(0, nan), false},
		{cpx(nan, 1), cpx(nan, 2), false},
		{cpx(1, nan), cpx(2, nan), false},
		{cpx(nan, 0), cpx(0, 0), false},
		{cpx(0, nan), cpx(0, 0), false},
		{cpx(nan, 0), cpx(inf, 0), false},
		{cpx(0, nan), cpx(0, inf), false},
	} {
		if got := Same(c.a, c.b); got != c.want {
			t.Errorf("P3.3: Same(%v, %v) is %t", c.a, c.b, got)
		}
		if got := Same(c.b, c.a); got != c.want {
			t.Errorf("P3.3: Same(%v, %v) is %t", c.b, c.a, got)
		}
	}
}

// TestSameOfWhatIsWorkedOut takes NaNs that come of sums: their bits are a machine's own.
func TestSameOfWhatIsWorkedOut(t *testing.T) {
	sum := CAdd(complex(inf, 0), complex(-inf, 0))
	product := CMul(complex(inf, 0), 0)
	if !Same(value(api.VCpx, 0, sum), value(api.VCpx, 0, complex(nan, 0))) {
		t.Error("P3.3: the NaN of a sum is not the same as a NaN")
	}
	if !Same(value(api.VCpx, 0, product), value(api.VCpx, 0, complex(nan, nan))) {
		t.Error("P3.3: the NaN of a product is not the same as a NaN")
	}
}

func TestZero(t *testing.T) {
	isZero := func(desc string, kind int) {
		t.Helper()
		got, want := Zero(desc), value(kind, 0, 0)
		if got.Kind != want.Kind || got.N != 0 || bits(got.C) != bits(0) {
			t.Errorf("P3.3: Zero(%q) is %v, want %v", desc, got, want)
		}
	}
	isZero("I", api.VInt)
	isZero("C", api.VCpx)
	for _, desc := range []string{
		"LA;", "LI;", "LC;", "[I", "[C", "[[I", "[LA;",
		"", "V", "i", "c", "X", "II", "IC", "I ", " I", "I\x00", "C\n", "(I)I", "()C", "L", "[", ";", "\xff", "é",
	} {
		isZero(desc, api.VRef)
	}
}
