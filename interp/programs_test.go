package interp

import (
	"fmt"
	"math/rand"
	"slices"
	"strings"
	"testing"

	"lantern/api"
)

// maker makes up code that fits: each value is of the type that it is taken for.
type maker struct {
	r      *rand.Rand
	code   []api.Instr
	jumps  []int // places of jumps that lead to some beginning of a statement
	starts []int
	locals map[string][]int // by type
}

// slots are the types of the locals that each method has.
var slots = []string{"I", "I", "C", "LA;", "LObject;", "[I", "[LA;"}

// holder is M's static field of that type.
func holder(d string) string { return "s" + strings.NewReplacer("[", "a", ";", "").Replace(d) }

func (g *maker) emit(l ...any) { g.code = code(g.code, code(l...)) }

func (g *maker) odds(n int) bool { return g.r.Intn(n) == 0 }

func (g *maker) int() int {
	l := []int{0, 0, 1, 1, 2, 3, -1, 7, 99, 100, 101, 1<<31 - 1, -1 << 31, g.r.Intn(1000) - 500}
	return l[g.r.Intn(len(l))]
}

// local is one of that type.
func (g *maker) local(d string) int { return g.locals[d][g.r.Intn(len(g.locals[d]))] }

// value lays one of that type; it takes no more than so many places of the stack.
func (g *maker) value(d string, room int) {
	if room < 5 || g.odds(3) {
		g.simple(d)
		return
	}
	switch d {
	case "I":
		g.valueInt(room - 1)
	case "C":
		g.valueCpx(room - 1)
	case "LA;":
		g.valueA(room - 1)
	case "LObject;":
		g.valueObject(room - 1)
	default:
		g.list(d, room-1)
	}
}

// simple is a constant, a local, or a static field.
func (g *maker) simple(d string) {
	switch n := g.r.Intn(24); {
	case n == 0:
		g.emit(in(api.Getstatic, "M", holder(d), d))
	case n < 14 && len(g.locals[d]) > 0:
		g.emit(in(api.Load, g.local(d)))
	case d == "I":
		g.emit(num(g.int()))
	case d == "C":
		g.emit(in(api.Cconst, g.int(), g.int()))
	case n == 23:
		g.emit(null)
	case d == "LA;":
		g.emit(made([]string{"A", "B"}[g.r.Intn(2)]))
	case d == "LObject;":
		g.emit(sysFresh)
	default:
		g.list(d, 2)
	}
}

// list is a new array.
func (g *maker) list(d string, room int) {
	if g.odds(8) {
		g.value("I", room)
	} else {
		g.emit(num(1 + g.r.Intn(3)))
	}
	if d == "[LA;" && g.odds(2) {
		d = "[LB;"
	}
	g.emit(in(api.Newarray, d[1:]))
}

// index is one that may lead to an element, or not.
func (g *maker) index(room int) {
	if g.odds(8) {
		g.value("I", room)
	} else {
		g.emit(num(g.r.Intn(2)))
	}
}

func (g *maker) valueInt(room int) {
	switch g.r.Intn(11) {
	case 0, 1, 2:
		g.value("I", room)
		g.value("I", room-1)
		g.emit(in([]int{api.Iadd, api.Isub, api.Imul, api.Idiv, api.Idiv}[g.r.Intn(5)]))
	case 3:
		g.value("C", room)
		g.emit(in(api.Cre))
	case 4:
		g.value([]string{"[I", "[LA;"}[g.r.Intn(2)], room)
		g.emit(in(api.Alen))
	case 5:
		g.value("[I", room)
		g.index(room - 1)
		g.emit(in(api.Aload))
	case 6:
		g.value("LObject;", room)
		g.emit(in(api.Isinst, g.someType()))
	case 7:
		g.value("LA;", room)
		g.emit(in(api.Getfield, "A", "x", "I"))
	case 8:
		g.emit(in(api.Getstatic, []string{"A", "B", "F", "J"}[g.r.Intn(4)], "k", "I"))
	case 9:
		g.emit(sysPick)
	case 10:
		g.callInt(room)
	}
}

func (g *maker) someType() string {
	l := []string{"LA;", "LB;", "LF;", "LObject;", "[I", "[LA;", "LJ;", "LThrowable;", "[LObject;"}
	return l[g.r.Intn(len(l))]
}

func (g *maker) callInt(room int) {
	if g.odds(3) {
		g.value("I", room)
		g.emit(in(api.Callstatic, []string{"A", "B", "M"}[g.r.Intn(3)], "f", "(I)I"))
		return
	}
	g.value("LA;", room)
	g.value("I", room-1)
	switch g.r.Intn(3) {
	case 0:
		g.emit(in(api.Callvirtual, "A", "v", "(I)I"))
	case 1:
		g.emit(in(api.Callspecial, "A", "v", "(I)I"))
	case 2:
		g.emit(in(api.Callinterface, "F", "v", "(I)I"))
	}
}

func (g *maker) valueCpx(room int) {
	switch g.r.Intn(4) {
	case 0, 1:
		g.value("C", room)
		g.value("C", room-1)
		g.emit(in([]int{api.Cadd, api.Cmul}[g.r.Intn(2)]))
	case 2:
		g.value("LA;", room)
		g.emit(in(api.Getfield, "A", "c", "C"))
	case 3:
		g.emit(in(api.Cconst, g.int(), g.int()), num(g.int()), in(api.Swap), in(api.Store, g.local("C")), pop, in(api.Load, g.local("C")))
	}
}

func (g *maker) valueA(room int) {
	switch g.r.Intn(6) {
	case 0:
		g.emit(made("B"), dup, in(api.Callspecial, "B", "<init>", "()V"))
	case 1:
		g.value("LA;", room)
		g.emit(in(api.Getfield, "B", "n", "LA;"))
	case 2:
		g.value("LObject;", room)
		g.emit(in(api.Cast, "LA;"))
	case 3:
		g.value("[LA;", room)
		g.index(room - 1)
		g.emit(in(api.Aload))
	case 4:
		g.value("LA;", room)
		g.value("LA;", room-1)
		g.emit(in(api.Callvirtual, "A", "w", "(LA;)LA;"))
	case 5:
		g.emit(made("A"))
	}
}

func (g *maker) valueObject(room int) {
	switch g.r.Intn(4) {
	case 0:
		g.emit(sysFresh)
	case 1:
		g.value("LObject;", room)
		g.emit(sysEcho)
	default:
		g.value([]string{"LA;", "[I", "[LA;"}[g.r.Intn(3)], room)
	}
}

const room = 12

// statement is code that begins and ends with an empty stack.
func (g *maker) statement() {
	g.starts = append(g.starts, len(g.code))
	d := slots[g.r.Intn(len(slots))]
	switch g.r.Intn(14) {
	case 0, 1, 2:
		g.value(d, room)
		g.emit(in(api.Store, g.local(d)))
	case 3:
		g.value(d, room)
		g.emit(in(api.Putstatic, "M", holder(d), d))
	case 4:
		g.value("I", room)
		g.emit(in(api.Putstatic, []string{"A", "B", "F", "J"}[g.r.Intn(4)], "k", "I"))
	case 5:
		f := []api.Field{{Name: "x", Desc: "I"}, {Name: "c", Desc: "C"}, {Name: "n", Desc: "LA;"}}[g.r.Intn(3)]
		g.value("LA;", room)
		g.value(f.Desc, room-1)
		g.emit(in(api.Putfield, "A", f.Name, f.Desc))
	case 6, 12, 13:
		array := []string{"[I", "[LA;"}[g.r.Intn(2)]
		g.value(array, room)
		g.index(room - 1)
		g.value(array[1:], room-2)
		g.emit(in(api.Astore))
	case 7:
		g.task()
	case 8:
		if !g.odds(5) {
			g.value("I", room)
			g.emit(in(api.Ifzero, len(g.code)+3))
		}
		g.emit(thrown([]string{"E", "E", "MemEx"}[g.r.Intn(3)]))
	case 9, 10:
		g.jump()
	case 11:
		g.emit(in(api.Callstatic, "M", "g", "()V"))
	}
}

func (g *maker) task() {
	if g.odds(5) {
		g.emit(null, sysCall)
		return
	}
	g.emit(made("J"))
	if g.odds(4) {
		g.emit(in(api.Callinterface, "Task", "run", "()V"))
	} else {
		g.emit(sysCall)
	}
}

func (g *maker) jump() {
	op := []int{api.Goto, api.Ifzero, api.Ifnull, api.Ifsame, api.Ifzero}[g.r.Intn(5)]
	switch op {
	case api.Ifzero:
		g.value("I", room)
	case api.Ifsame:
		g.value("LObject;", room)
		g.value("LObject;", room-1)
	case api.Ifnull:
		g.value("LObject;", room)
	}
	g.jumps = append(g.jumps, len(g.code))
	g.emit(in(op))
}

// method makes up one.
func (g *maker) method(name, d string, isStatic bool) part {
	*g = maker{r: g.r, locals: map[string][]int{}}
	first := count(d)
	if !isStatic {
		first++
	}
	for i, of := range slots {
		g.simple(of)
		g.emit(in(api.Store, first+i))
		g.locals[of] = append(g.locals[of], first+i)
	}
	statements := 2 + g.r.Intn(6)
	if name == "<clinit>" {
		statements = g.r.Intn(3)
	}
	for n := statements; n > 0 && len(g.code) < 110; n-- {
		g.statement()
	}
	g.starts = append(g.starts, len(g.code))
	if of := d[strings.Index(d, ")")+1:]; of == "V" {
		g.emit(back)
	} else {
		g.value(of, 5)
		g.emit(tell)
	}
	x := api.Method{Name: name, Desc: d, Static: isStatic, Stack: 14, Locals: first + len(slots)}
	for n := g.r.Intn(4); n >= 0; n-- {
		// Not ahead of the first statement: all locals are laid by then.
		from := g.starts[0] + g.r.Intn(len(g.code)-g.starts[0])
		to := from + 1 + g.r.Intn(len(g.code)-from)
		if n == 0 {
			from, to = g.starts[0], len(g.code)
		}
		x.Handlers = append(x.Handlers, on(from, to, len(g.code), []string{"", "", "Throwable", "E", "NullEx", "InitEx", "MemEx", "F"}[g.r.Intn(8)]))
		g.emit(in(api.Store, g.local("LObject;")))
		g.jumps = append(g.jumps, len(g.code))
		g.emit(in(api.Goto))
	}
	for _, place := range g.jumps {
		g.code[place].A = g.starts[g.r.Intn(len(g.starts))]
	}
	x.Code = g.code
	return method(x)
}

// perhaps is a `<clinit>`, or nothing.
func (g *maker) perhaps() part {
	if !g.odds(3) {
		return func(*api.Class) {}
	}
	return g.method("<clinit>", "()V", true)
}

// program makes one up.
func (g *maker) program() []api.Class {
	k := shared("k", "I")
	statics := func(c *api.Class) {
		for _, d := range slots[1:] {
			shared(holder(d), d)(c)
		}
	}
	v := func() part { return g.method("v", "(I)I", false) }
	f := func() part { return g.method("f", "(I)I", true) }
	m := class("M", "Object", statics, g.method("main", "()V", true), g.method("g", "()V", true), f(), g.perhaps())
	a := class("A", "Object", k, own("x", "I"), own("c", "C"), own("n", "LA;"), birth, v(), f(), g.method("w", "(LA;)LA;", false), g.perhaps(), implements("F"))
	b := class("B", "A", own("x", "C"), k, birth, v(), g.perhaps())
	j := class("J", "Object", implements("Task"), k, g.method("run", "()V", false), g.perhaps())
	if g.odds(2) {
		m.Super = "A"
	}
	return []api.Class{m, a, b, j, face("F", k, open("v", "(I)I"), g.perhaps()), class("E", "Throwable", g.perhaps())}
}

// P10.1, P10.2: made-up programs run as the model does, step by step.
func TestModel(t *testing.T) {
	ends := map[int]int{}
	seen := map[string]int{}
	for seed := range int64(1200) {
		g := &maker{r: rand.New(rand.NewSource(seed))}
		l := g.program()
		s := api.Script{Picks: []int{g.int(), g.int(), g.int(), 1 << 33}, Fails: []int{g.r.Intn(90), g.r.Intn(30) * g.r.Intn(2)}}
		p := linked(t, l...)
		m, e := New(p, entry, s)
		if e != api.OK {
			t.Fatal(e)
		}
		w := newModel(l, "M", "main", s)
		for step := range 600 {
			m.Step()
			w.step()
			if step%97 != 0 && m.State() == Runs && step < 599 {
				continue
			}
			if got, want := whole(p, m), w.whole(p); got != want {
				t.Fatalf("seed %d, step %d:\n%s", seed, step, apart(got, want))
			}
			if m.State() != Runs {
				break
			}
		}
		ends[m.State()]++
		for _, x := range shown(m) {
			words := strings.Fields(x)
			seen[words[0]+words[len(words)-1]]++
		}
	}
	if ends[Ended] < 20 || ends[Died] < 20 || ends[Stuck] != 0 {
		t.Errorf("too few of a kind: %v", ends)
	}
	for _, of := range []string{"NullEx", "BoundsEx", "StoreEx", "CastEx", "ArithEx", "MemEx", "DepthEx", "InitEx", "E"} {
		if seen["throw"+of] == 0 || seen["catch"+of] == 0 {
			t.Errorf("no %s was thrown and caught", of)
		}
	}
}

// apart is the lines of two texts that are not alike.
func apart(got, want string) string {
	a, b := strings.Split(got, "\n"), strings.Split(want, "\n")
	var out strings.Builder
	for i := range max(len(a), len(b)) {
		x, y := "", ""
		if i < len(a) {
			x = a[i]
		}
		if i < len(b) {
			y = b[i]
		}
		if x != y {
			fmt.Fprintf(&out, " got %s\nwant %s\n", x, y)
		}
	}
	return out.String()
}

// The words of the model's own: how many parameters, and zeros.
func TestModelWords(t *testing.T) {
	for d, want := range map[string]int{"()V": 0, "(I)I": 1, "(ICLA;[I)V": 4, "([[LA;LB;C)V": 3, "(LIC;)V": 1} {
		same(t, d, count(d), want)
	}
	var got []api.Value
	for _, d := range []string{"I", "C", "LA;", "[I", "[[C"} {
		got = append(got, zeroOf(d))
	}
	if !slices.Equal(got, []api.Value{vInt(0), vCpx(0), vRef(0), vRef(0), vRef(0)}) {
		t.Error(got)
	}
}
