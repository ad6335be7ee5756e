package interp

import (
	"fmt"
	"math"
	"slices"
	"testing"
	"unsafe"

	"lantern/api"
)

// busy is a program that does a little of all, with what its script may turn.
func busy() []api.Class {
	s := class("S", "Object", shared("k", "I"), clinit(sysPick, in(api.Putstatic, "S", "k", "I"), list(2, "I"), pop))
	j := class("J", "Object", implements("Task"), own("n", "I"), own("c", "C"), virtual("run", "()V", in(api.Load, 0), sysPick, in(api.Putfield, "J", "n", "I"), in(api.Load, 0), in(api.Cconst, 1, 2), in(api.Cconst, 3, 4), in(api.Cmul), in(api.Putfield, "J", "c", "C"), back))
	l := code(
		sysPick, in(api.Store, 0),
		made("J"), dup, keepRef, sysCall,
		in(api.Getstatic, "S", "k", "I"), in(api.Load, 0), in(api.Iadd), keep,
		list(3, "LJ;"), num(1), made("J"), in(api.Astore),
		sysFresh, sysEcho, pop, back,
		keepRef, back)
	return []api.Class{main(l, catches(on(0, 18, 18, ""))), s, j}
}

// scripts are some that turn what busy does.
func scripts() []api.Script {
	return []api.Script{{}, {Picks: []int{3, 5, 7}}, {Picks: []int{1 << 40, -9}, Fails: []int{3}}, {Fails: []int{4, 1}}, {Fails: []int{2}}, {Fails: []int{5, 5, -1}}, {Picks: []int{math.MinInt + 1}, Fails: []int{6}}}
}

// P10.3: the same program, entry and script show the same, in one go and step by step, whatever is asked in between.
func TestSame(t *testing.T) {
	seen := map[string]bool{}
	for _, s := range scripts() {
		p := linked(t, busy()...)
		one, _ := New(p, entry, s)
		one.Run(1000)
		two, _ := New(p, entry, s)
		for two.Step() == Runs {
			two.State()
			two.Events()
			two.Frames()
			two.Static("M", "r")
			two.Init("S")
			FieldsOf(p, "J")
		}
		other := linked(t, busy()...)
		three, _ := New(other, entry, s)
		for _, n := range []int{3, 0, 7, -2, 1, 1000} {
			three.Run(n)
		}
		want := whole(p, one)
		same(t, "step by step", whole(p, two), want)
		same(t, "by parts", whole(other, three), want)
		seen[want] = true
	}
	same(t, "scripts that show something else", len(seen), len(scripts()))
}

// P10.3: two machines of one program have nothing in common.
func TestApart(t *testing.T) {
	p := linked(t, busy()...)
	one, _ := New(p, entry, api.Script{Picks: []int{3, 5, 7}})
	two, _ := New(p, entry, api.Script{Picks: []int{3, 5, 7}})
	alone, _ := New(p, entry, api.Script{Picks: []int{3, 5, 7}})
	alone.Run(1000)
	one.Run(9)
	at := whole(p, one)
	two.Run(1000)
	same(t, "the one", whole(p, one), at)
	one.Run(1000)
	same(t, "the one", whole(p, one), whole(p, alone))
	same(t, "the other", whole(p, two), whole(p, alone))
}

// P10.3: the script's rows are neither changed nor kept, their spare room neither.
func TestScriptNotKept(t *testing.T) {
	p := linked(t, busy()...)
	given := api.Script{Picks: []int{3, 5, 7}, Fails: []int{9, 5, 8, 5}}
	want, _ := New(p, entry, given)
	want.Run(1000)
	pickRoom, failRoom := append(slices.Clone(given.Picks), 77, 78), append(slices.Clone(given.Fails), 1, 2)
	pickCopy, failCopy := slices.Clone(pickRoom), slices.Clone(failRoom)
	s := api.Script{Picks: pickRoom[:3], Fails: failRoom[:4]}
	m, _ := New(p, entry, s)
	m.Run(3)
	same(t, "picks", pickRoom, pickCopy)
	same(t, "fails", failRoom, failCopy)
	for i := range pickRoom {
		pickRoom[i] = -1
	}
	for i := range failRoom {
		failRoom[i] = i
	}
	m.Run(1000)
	same(t, "what it shows", whole(p, m), whole(p, want))
	same(t, "fails", failRoom, []int{0, 1, 2, 3, 4, 5})
}

// P10.3: the entry's text is not kept: its memory may be turned.
func TestEntryNotKept(t *testing.T) {
	b := []byte(entry)
	p := linked(t, busy()...)
	m, e := New(p, unsafe.String(unsafe.SliceData(b), len(b)), api.Script{})
	if e != api.OK {
		t.Fatal(e)
	}
	for i := range b {
		b[i] = '#'
	}
	want, _ := New(p, entry, api.Script{})
	want.Run(1000)
	m.Run(1000)
	same(t, "what it shows", whole(p, m), whole(p, want))
}

// P10.3: the program is not changed.
func TestProgramStays(t *testing.T) {
	p := linked(t, busy()...)
	told := func() string {
		s := ""
		for _, name := range p.Names() {
			c, _ := p.Class(name)
			s += fmt.Sprintln(c)
		}
		return s
	}
	before := told()
	for _, s := range scripts() {
		m, _ := New(p, entry, s)
		m.Run(1000)
	}
	same(t, "the program", told(), before)
}

// P10.3: what is answered may be turned behind the call, its spare room too; the machine goes on as it would.
func TestAnswersAreNewMemory(t *testing.T) {
	for _, s := range scripts() {
		p := linked(t, busy()...)
		want, _ := New(p, entry, s)
		m, _ := New(p, entry, s)
		bad := api.Value{Kind: api.VRef, N: 1 << 30}
		for range 60 {
			events := m.Events()
			for i := range events[:cap(events)] {
				events[:cap(events)][i] = api.Event{Kind: 9, Where: "bad", PC: -1, What: "bad"}
			}
			frames := m.Frames()
			for i, f := range frames {
				for _, l := range [][]api.Value{f.Locals, f.Stack} {
					l = l[:cap(l)]
					for i := range l {
						l[i] = bad
					}
				}
				frames[i] = Frame{Method: "bad", PC: -1}
			}
			fields := FieldsOf(p, "J")
			for i := range fields[:cap(fields)] {
				fields[:cap(fields)][i] = "bad"
			}
			same(t, "what it shows", whole(p, m), whole(p, want))
			m.Step()
			want.Step()
		}
		same(t, "what it shows", whole(p, m), whole(p, want))
	}
}

// P10.3: two answers have nothing in common.
func TestAnswersApart(t *testing.T) {
	m := begun(t, picks(4), main(code(sysPick, in(api.Callstatic, "M", "f", "(I)V"), back), static("f", "(I)V", num(3), back)))
	m.Run(3)
	events, frames := m.Events(), m.Frames()
	wantEvents, wantFrames := fmt.Sprint(events), fmt.Sprint(frames)
	otherEvents, otherFrames := m.Events(), m.Frames()
	for i := range otherEvents {
		otherEvents[i].PC = 99
	}
	for i := range otherFrames {
		otherFrames[i].PC = 99
		for j := range otherFrames[i].Locals {
			otherFrames[i].Locals[j].N = 99
		}
		for j := range otherFrames[i].Stack {
			otherFrames[i].Stack[j].N = 99
		}
	}
	same(t, "Events", fmt.Sprint(events), wantEvents)
	same(t, "Frames", fmt.Sprint(frames), wantFrames)
	// And what was told does not follow the machine.
	m.Run(100)
	same(t, "Events", fmt.Sprint(events), wantEvents)
	same(t, "Frames", fmt.Sprint(frames), wantFrames)
}

// P10.3: a failing New leaves nothing behind, and takes nothing.
func TestNewFails(t *testing.T) {
	p := linked(t, busy()...)
	s := api.Script{Picks: []int{3, 1, 2}, Fails: []int{3, 1, 2}}
	if m, e := New(p, "M.none()V", s); m != nil || e != api.ErrEntry {
		t.Errorf("%v, %d", m, e)
	}
	same(t, "script", s, api.Script{Picks: []int{3, 1, 2}, Fails: []int{3, 1, 2}})
}
