package interp

import (
	"fmt"
	"testing"

	"lantern/api"
)

// kinds are letters of Kinds, and the code that lays a value of each.
func layKind(k byte) []api.Instr {
	switch k {
	case 'I':
		return code(num(1))
	case 'C':
		return code(in(api.Cconst, 1, 2))
	}
	return code(null)
}

// layKinds lays a value of each letter.
func layKinds(s string) []api.Instr {
	var l []api.Instr
	for i := range len(s) {
		l = code(l, layKind(s[i]))
	}
	return l
}

// wantRow is an instruction, the Kinds that it takes, `?` of whatever there is, and how many values it lays.
type wantRow struct {
	x    api.Instr
	want string
	lays int
}

func wantRows() []wantRow {
	return []wantRow{
		{nop, "", 0}, {num(3), "", 1}, {in(api.Cconst, 1, 2), "", 1}, {null, "", 1}, {in(api.Load, 2), "", 1}, {in(api.Store, 2), "?", 0}, {pop, "?", 0}, {dup, "?", 2}, {in(api.Swap), "??", 2},
		{in(api.Iadd), "II", 1}, {in(api.Isub), "II", 1}, {in(api.Imul), "II", 1}, {in(api.Idiv), "II", 1}, {in(api.Cadd), "CC", 1}, {in(api.Cmul), "CC", 1}, {in(api.Cre), "C", 1},
		{in(api.Goto, 0), "", 0}, {in(api.Ifzero, 0), "I", 0}, {in(api.Ifnull, 0), "R", 0}, {in(api.Ifsame, 0), "RR", 0},
		{made("A"), "", 1}, {in(api.Getfield, "A", "i", "I"), "R", 1}, {in(api.Getfield, "A", "c", "C"), "R", 1}, {in(api.Getfield, "A", "a", "LA;"), "R", 1},
		{in(api.Putfield, "A", "i", "I"), "RI", 0}, {in(api.Putfield, "A", "c", "C"), "RC", 0}, {in(api.Putfield, "A", "a", "LA;"), "RR", 0}, {in(api.Putfield, "A", "l", "[I"), "RR", 0},
		{in(api.Getstatic, "A", "si", "I"), "", 1}, {in(api.Getstatic, "A", "sc", "C"), "", 1}, {in(api.Getstatic, "A", "sa", "LA;"), "", 1},
		{in(api.Putstatic, "A", "si", "I"), "I", 0}, {in(api.Putstatic, "A", "sc", "C"), "C", 0}, {in(api.Putstatic, "A", "sa", "LA;"), "R", 0},
		{in(api.Newarray, "I"), "I", 1}, {in(api.Newarray, "LA;"), "I", 1}, {in(api.Aload), "RI", 1}, {in(api.Astore), "RI?", 0}, {in(api.Alen), "R", 1}, {in(api.Cast, "LA;"), "R", 1}, {in(api.Isinst, "LA;"), "R", 1},
		{in(api.Callstatic, "A", "s", "()V"), "", 0}, {in(api.Callstatic, "A", "s", "(ICLA;[I)V"), "ICRR", 0}, {in(api.Callspecial, "A", "<init>", "()V"), "R", 0}, {in(api.Callspecial, "A", "v", "(ICLA;[I)V"), "RICRR", 0},
		{in(api.Callvirtual, "A", "v", "()V"), "R", 0}, {in(api.Callvirtual, "A", "v", "(ICLA;[I)V"), "RICRR", 0}, {in(api.Callinterface, "F", "v", "()V"), "R", 0}, {in(api.Callinterface, "F", "v", "(ICLA;[I)V"), "RICRR", 0},
		{in(api.Callstatic, "Sys", "pick", "()I"), "", 1}, {in(api.Callstatic, "Sys", "echo", "(LObject;)LObject;"), "R", 1}, {in(api.Callstatic, "Sys", "fresh", "()LObject;"), "", 1}, {in(api.Callstatic, "Sys", "call", "(LTask;)V"), "R", 0},
		{back, "", 0}, {tell, "?", 0}, {throw, "R", 0},
	}
}

// wide is sample with methods of many parameters, and an interface that has them.
func wide() []api.Class {
	a := class("A", "Object", implements("F"), own("i", "I"), own("c", "C"), own("a", "LA;"), own("l", "[I"), shared("si", "I"), shared("sc", "C"), shared("sa", "LA;"), birth,
		static("s", "()V", back), static("s", "(ICLA;[I)V", back), virtual("v", "()V", back), virtual("v", "(ICLA;[I)V", back), static("i", "()I", num(1), tell))
	return []api.Class{a, face("F", open("v", "()V"), open("v", "(ICLA;[I)V"))}
}

// before is a machine whose next instruction is x, behind code that lays something, in a method with so high a Stack.
func before(t *testing.T, lay []api.Instr, x api.Instr, stack int) *Machine {
	t.Helper()
	m := begun(t, api.Script{}, append(wide(), main(code(lay, x, back), tall(stack)))...)
	m.Run(len(lay))
	if m.State() != Runs || m.Steps() != len(lay) || len(m.Events()) != 0 {
		t.Fatalf("State %d, %d steps, %v", m.State(), m.Steps(), shown(m))
	}
	return m
}

// stuck: the next step shows and does nothing, and the machine stays so.
func stuck(t *testing.T, what string, m *Machine) {
	t.Helper()
	frames, events, count := fmt.Sprint(m.Frames()), len(m.Events()), m.Heap().Count()
	for range 3 {
		if s := m.Step(); s != Stuck {
			t.Errorf("%s: State %d, want Stuck", what, s)
			return
		}
	}
	if fmt.Sprint(m.Frames()) != frames || len(m.Events()) != events || m.Heap().Count() != count || m.State() != Stuck || m.Run(50) != Stuck || m.Thrown() != 0 {
		t.Errorf("%s: %v, %v, %d objects, want %s, %d events, %d objects", what, m.Frames(), shown(m), m.Heap().Count(), frames, events, count)
	}
	steps := m.Steps()
	if m.Run(9); m.Steps() != steps {
		t.Errorf("%s: a Stuck machine does steps", what)
	}
}

// P10.1: each Op with what it takes goes on; with one value less, and with one of another Kind in each place, it is Stuck.
func TestStuckByStack(t *testing.T) {
	for _, r := range wantRows() {
		name := fmt.Sprint(r.x)
		for _, k := range "ICR" {
			fits := []byte(r.want)
			for i, want := range fits {
				if want == '?' {
					fits[i] = byte(k)
				}
			}
			if s := before(t, layKinds(string(fits)), r.x, 6).Step(); s == Stuck {
				t.Errorf("%s is Stuck on %s", name, fits)
			}
		}
		for n := range len(r.want) {
			short := []byte(r.want[n+1:])
			stuck(t, name+" on too few", before(t, layKinds(string(short)), r.x, 6))
		}
		for i, want := range r.want {
			for _, k := range "ICR" {
				if k == want || want == '?' {
					continue
				}
				other := []byte("I" + r.want)
				other[i+1] = byte(k)
				stuck(t, fmt.Sprint(name, " on ", string(other)), before(t, layKinds(string(other)), r.x, 7))
			}
		}
	}
}

// P10.1: an instruction that lays more than it takes needs room for it; one that doesn't needs none.
func TestStuckByHeight(t *testing.T) {
	for _, r := range wantRows() {
		for below := range 3 {
			lay := layKinds("III"[:below] + r.want)
			height := len(lay)
			after := below + r.lays
			m := before(t, lay, r.x, max(height, after))
			if m.Step() == Stuck {
				t.Errorf("%v is Stuck at the height %d of %d", r.x, height, max(height, after))
			}
			if after > height {
				stuck(t, fmt.Sprint(r.x, " at the height"), before(t, lay, r.x, after-1))
			}
		}
	}
}

// P10.1: a value that a call tells needs room, too.
func TestStuckByResult(t *testing.T) {
	call := in(api.Callstatic, "A", "i", "()I")
	for below := range 4 {
		l := main(code(layKinds("CCC"[:below]), call, back), tall(below))
		m := begun(t, api.Script{}, append(wide(), l)...)
		same(t, "State", m.Run(100), Stuck)
		l.Methods[0].Stack++
		ends(t, plain(t, append(wide(), l)...), 0)
	}
}

// P10.1: behind the code's end there is no place.
func TestStuckAtEnd(t *testing.T) {
	m := begun(t, api.Script{}, main(code(num(4), nop)))
	m.Run(2)
	frames(t, m, []Frame{{Method: entry, PC: 2, Locals: make([]api.Value, 6), Stack: []api.Value{vInt(4)}}})
	stuck(t, "the end", m)
	m = begun(t, api.Script{}, main(code(in(api.Callstatic, "M", "f", "()V"), back), static("f", "()V", num(1), in(api.Ifzero, 0))))
	m.Run(3)
	stuck(t, "the end of a method that is called", m)
	same(t, "Frames", len(m.Frames()), 2)
}

// P10.1: names that lead nowhere: Stuck ahead of null, of initialisation, of all else.
func TestStuckByName(t *testing.T) {
	for _, r := range []struct {
		lay string
		x   api.Instr
	}{
		{"", made("Q")}, {"", made("F")}, {"", made("Task")}, {"", made("Sys")}, {"", made("Abs")},
		{"R", in(api.Getfield, "A", "x", "I")}, {"R", in(api.Getfield, "A", "i", "C")}, {"R", in(api.Getfield, "A", "si", "I")}, {"R", in(api.Getfield, "Object", "i", "I")}, {"R", in(api.Getfield, "Q", "i", "I")}, {"R", in(api.Getfield, "M", "i", "I")},
		{"RI", in(api.Putfield, "A", "x", "I")}, {"RC", in(api.Putfield, "A", "i", "C")}, {"RI", in(api.Putfield, "A", "si", "I")}, {"RI", in(api.Putfield, "Q", "i", "I")},
		{"", in(api.Getstatic, "A", "x", "I")}, {"", in(api.Getstatic, "A", "si", "C")}, {"", in(api.Getstatic, "A", "i", "I")}, {"", in(api.Getstatic, "Object", "si", "I")}, {"", in(api.Getstatic, "Q", "si", "I")},
		{"I", in(api.Putstatic, "A", "x", "I")}, {"C", in(api.Putstatic, "A", "si", "C")}, {"I", in(api.Putstatic, "A", "i", "I")}, {"I", in(api.Putstatic, "Q", "si", "I")},
		{"", in(api.Callstatic, "A", "x", "()V")}, {"I", in(api.Callstatic, "A", "s", "(I)V")}, {"", in(api.Callstatic, "A", "v", "()V")}, {"", in(api.Callstatic, "Q", "s", "()V")}, {"", in(api.Callstatic, "Object", "s", "()V")}, {"", in(api.Callstatic, "Sys", "pick", "()V")}, {"", in(api.Callstatic, "F", "v", "()V")},
		{"R", in(api.Callspecial, "A", "x", "()V")}, {"R", in(api.Callspecial, "A", "s", "()V")}, {"R", in(api.Callspecial, "F", "v", "()V")}, {"R", in(api.Callspecial, "Q", "v", "()V")}, {"R", in(api.Callspecial, "M", "<init>", "()V")}, {"RI", in(api.Callspecial, "A", "<init>", "(I)V")}, {"R", in(api.Callspecial, "Abs", "o", "()V")},
		{"R", in(api.Callvirtual, "A", "x", "()V")}, {"R", in(api.Callvirtual, "A", "s", "()V")}, {"R", in(api.Callvirtual, "F", "v", "()V")}, {"R", in(api.Callvirtual, "Q", "v", "()V")}, {"R", in(api.Callvirtual, "Task", "run", "()V")}, {"R", in(api.Callvirtual, "Object", "v", "()V")},
		{"R", in(api.Callinterface, "A", "v", "()V")}, {"R", in(api.Callinterface, "F", "x", "()V")}, {"R", in(api.Callinterface, "F", "s", "()V")}, {"R", in(api.Callinterface, "Q", "v", "()V")}, {"R", in(api.Callinterface, "Object", "v", "()V")},
	} {
		m := begun(t, api.Script{}, append(wide(), class("Abs", "Object", abstract, open("o", "()V")), main(code(layKinds(r.lay), r.x, back)))...)
		m.Run(len(r.lay))
		stuck(t, fmt.Sprint(r.x), m)
	}
}

// P10.1: an array wants a value of its elements' Kind, whatever the index.
func TestStuckByElement(t *testing.T) {
	for elem, fits := range map[string]byte{"I": 'I', "C": 'C', "LA;": 'R', "[I": 'R'} {
		for _, k := range []byte("ICR") {
			for _, i := range []int{0, 1} {
				lay := code(list(2, elem), num(i), layKind(k))
				m := before(t, lay, in(api.Astore), 6)
				if k != fits {
					stuck(t, fmt.Sprintf("Astore of %c into [%s", k, elem), m)
				} else if m.Step() != Runs {
					t.Errorf("Astore of %c into [%s: State %d", k, elem, m.State())
				}
			}
		}
	}
	for _, i := range []int{-1, 2} {
		m := before(t, code(list(2, "I"), num(i), null), in(api.Astore), 6)
		stuck(t, "Astore of another Kind at no place", m)
	}
}

// P10.1: an object's class that has no such method: it is not null, and there is room for a frame.
func TestStuckByDispatch(t *testing.T) {
	for _, lay := range [][]api.Instr{code(made("M")), code(made("Object")), list(1, "LA;"), list(1, "I")} {
		for _, x := range []api.Instr{in(api.Callvirtual, "A", "v", "()V"), in(api.Callinterface, "F", "v", "()V")} {
			stuck(t, fmt.Sprint(x, " of ", lay), before(t, lay, x, 6))
		}
	}
}

// P10.1: Stuck comes ahead of an initialisation that the instruction asks for.
func TestStuckAheadOfInit(t *testing.T) {
	s := class("S", "Object", shared("k", "I"), static("f", "(I)I", num(1), tell), clinit())
	for _, c := range []struct {
		lay string
		x   api.Instr
	}{
		{"IIIIII", made("S")},
		{"IIIIII", in(api.Getstatic, "S", "k", "I")},
		{"", in(api.Putstatic, "S", "k", "I")}, {"R", in(api.Putstatic, "S", "k", "I")}, {"C", in(api.Putstatic, "S", "k", "I")},
		{"", in(api.Callstatic, "S", "f", "(I)I")}, {"R", in(api.Callstatic, "S", "f", "(I)I")},
	} {
		m := begun(t, api.Script{}, main(code(layKinds(c.lay), c.x, back)), s)
		m.Run(len(c.lay))
		stuck(t, fmt.Sprint(c.x), m)
		same(t, "Init", m.Init("S"), 0)
	}
}
