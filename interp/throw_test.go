package interp

import (
	"fmt"
	"testing"

	"lantern/api"
)

// classesThrown is E, one of F (and of G by that), and below it D.
func classesThrown() []api.Class {
	return []api.Class{class("E", "Throwable", implements("F")), class("D", "E"), face("F", implements("G")), face("G"), class("O", "Throwable")}
}

// P10.1: which handlers catch: none, by class, super, interface, all.
func TestHandlerClass(t *testing.T) {
	for of, ok := range map[string]bool{
		"": true, "E": true, "Throwable": true, "Object": true, "F": true, "G": true,
		"D": false, "O": false, "NullEx": false, "Task": false, "M": false, "Q": false, "Sys": false,
	} {
		m := plain(t, append(classesThrown(), main(code(made("E"), throw, in(api.Putstatic, "M", "o", "LObject;"), back), catches(on(1, 2, 2, of))))...)
		if !ok {
			shows(t, m, "throw M.main()V 1 E")
			state(t, m, Died)
			continue
		}
		ends(t, m, 0)
		same(t, "o", keptRef(m), 1)
		shows(t, m, "throw M.main()V 1 E", "catch M.main()V 2 E", "end M.main()V 3")
	}
	m := plain(t, append(classesThrown(), main(code(made("D"), throw, pop, back), catches(on(1, 2, 2, "G"))))...)
	shows(t, m, "throw M.main()V 1 D", "catch M.main()V 2 D", "end M.main()V 3")
}

// P10.1: a handler has the places from From on, and not To; at a place it may have itself.
func TestHandlerPlaces(t *testing.T) {
	l := code(nop, made("E"), nop, throw, nop, pop, back)
	for from := range 6 {
		for to := from + 1; to <= 7; to++ {
			m := plain(t, append(classesThrown(), main(l, catches(on(from, to, 5, "E"))))...)
			if from <= 3 && 3 < to {
				shows(t, m, "throw M.main()V 3 E", "catch M.main()V 5 E", "end M.main()V 6")
			} else {
				shows(t, m, "throw M.main()V 3 E")
			}
		}
	}
}

// P10.1: the first handler, in order, that catches it.
func TestHandlerOrder(t *testing.T) {
	l := code(made("E"), throw, nop, nop, pop, back)
	for _, c := range []struct {
		handlers []api.Handler
		at       int
	}{
		{[]api.Handler{on(1, 2, 2, "E"), on(1, 2, 3, "E")}, 2},
		{[]api.Handler{on(1, 2, 3, "E"), on(1, 2, 2, "E")}, 3},
		{[]api.Handler{on(1, 2, 4, ""), on(1, 2, 2, "E")}, 4},
		{[]api.Handler{on(1, 2, 4, "D"), on(0, 1, 3, ""), on(2, 6, 3, ""), on(0, 6, 2, "Throwable"), on(1, 2, 3, "E")}, 2},
		{[]api.Handler{on(1, 2, 4, "Q"), on(1, 2, 3, "G"), on(1, 2, 2, "E")}, 3},
	} {
		m := plain(t, append(classesThrown(), main(l, catches(c.handlers...)))...)
		shows(t, m, "throw M.main()V 1 E", fmt.Sprint("catch M.main()V ", c.at, " E"), "end M.main()V 5")
	}
}

// P10.1: what is caught lies alone on the stack; the locals stay; it is a step.
func TestCaught(t *testing.T) {
	m := begun(t, api.Script{}, append(classesThrown(), main(code(num(4), in(api.Store, 3), num(1), num(2), made("E"), throw, nop, back), catches(on(0, 8, 6, ""))))...)
	m.Run(6)
	locals := make([]api.Value, 6)
	locals[3] = vInt(4)
	frames(t, m, []Frame{{Method: entry, PC: 6, Locals: locals, Stack: []api.Value{vRef(1)}}})
	same(t, "State, Steps, Thrown", []int{m.State(), m.Steps(), m.Thrown()}, []int{Runs, 6, 0})
}

// P10.1: a machine exception is caught as well, with its class; it is an object like others.
func TestCaughtException(t *testing.T) {
	for _, of := range []string{"", "ArithEx", "Throwable", "Object"} {
		m := plain(t, main(code(num(3), num(1), num(0), in(api.Idiv), keepRef, back), catches(on(3, 4, 4, of))))
		ends(t, m, 0)
		shows(t, m, "throw M.main()V 3 ArithEx", "catch M.main()V 4 ArithEx", "end M.main()V 5")
		h := m.Heap()
		same(t, "object", []any{keptRef(m), h.Type(1), h.Site(1), h.Count(), len(h.Fields(1)), h.Len(1)}, []any{1, "LArithEx;", "!ArithEx", 1, 0, -1})
	}
	dies(t, plain(t, main(code(num(1), num(0), in(api.Idiv), pop, back), catches(on(2, 3, 3, "NullEx")))), "ArithEx")
}

// P10.1: the frames below are asked at the place of their call; a throw is shown once, where it was thrown.
func TestCaughtBelow(t *testing.T) {
	f := static("f", "(I)V", thrown("E"))
	g := static("g", "()V", num(5), num(1), in(api.Callstatic, "M", "f", "(I)V"), back)
	for place, c := range map[int]struct {
		in api.Handler
		ok bool
	}{0: {on(2, 3, 4, ""), true}, 1: {on(0, 2, 4, ""), false}, 2: {on(3, 4, 4, ""), false}, 3: {on(0, 4, 4, "E"), true}, 4: {on(2, 3, 4, "D"), false}} {
		l := code(nop, num(7), in(api.Callstatic, "M", "g", "()V"), back, keepRef, num(place), keep, back)
		m := plain(t, append(classesThrown(), main(l, catches(c.in), f, g))...)
		want := []string{"call M.main()V 2 M.g()V", "call M.g()V 2 M.f(I)V", "throw M.f(I)V 1 E"}
		if c.ok {
			shows(t, m, append(want, "catch M.main()V 4 E", "end M.main()V 7")...)
			ends(t, m, place)
		} else {
			shows(t, m, want...)
			same(t, "State and Thrown", []int{m.State(), m.Thrown(), len(m.Frames())}, []int{Died, 1, 0})
		}
	}
}

// P10.1: a frame in the middle catches, and goes on; what it throws anew is shown anew.
func TestCaughtMidway(t *testing.T) {
	f := static("f", "()V", thrown("E"))
	g := static("g", "()V", num(5), in(api.Callstatic, "M", "f", "()V"), back, throw, back)
	l := code(num(7), in(api.Callstatic, "M", "g", "()V"), back, pop, back)
	m := begun(t, api.Script{}, append(classesThrown(), main(l, catches(on(1, 2, 3, "")), g, catches(on(0, 2, 3, "")), f))...)
	m.Run(6)
	frames(t, m, []Frame{
		{Method: entry, PC: 1, Locals: make([]api.Value, 6), Stack: []api.Value{vInt(7)}},
		{Method: "M.g()V", PC: 3, Locals: make([]api.Value, 6), Stack: []api.Value{vRef(1)}},
	})
	m.Run(100)
	state(t, m, Ended)
	shows(t, m, "call M.main()V 1 M.g()V", "call M.g()V 1 M.f()V", "throw M.f()V 1 E", "catch M.g()V 3 E", "throw M.g()V 3 E", "catch M.main()V 3 E", "end M.main()V 4")
}

// P10.1: a handler at its own places catches what is thrown behind it.
func TestCaughtAgain(t *testing.T) {
	m := begun(t, api.Script{}, append(classesThrown(), main(code(made("E"), throw), catches(on(0, 2, 1, ""))))...)
	same(t, "State and Steps", []int{m.Run(50), m.Steps(), len(m.Events()), m.Heap().Count()}, []int{Runs, 50, 98, 1})
}

// P10.1: what is not Throwable is thrown as well, where code is not verified.
func TestThrowsAny(t *testing.T) {
	m := plain(t, main(code(made("M"), throw, pop, back), catches(on(0, 2, 2, "M"))))
	shows(t, m, "throw M.main()V 1 M", "catch M.main()V 2 M", "end M.main()V 3")
}

// P10.1: what nothing catches: Died, of that object.
func TestDied(t *testing.T) {
	m := plain(t, append(classesThrown(), main(code(made("Object"), pop, in(api.Callstatic, "M", "f", "()V"), back), catches(on(2, 3, 3, "O")), static("f", "()V", made("Object"), thrown("D"))))...)
	same(t, "State, Thrown, Frames, Steps", []any{m.State(), m.Thrown(), len(m.Frames()), m.Steps(), m.Heap().Type(3), m.Heap().Site(3), m.Heap().Count()}, []any{Died, 3, 0, 6, "LD;", "M.f()V@1", 3})
	shows(t, m, "call M.main()V 2 M.f()V", "throw M.f()V 2 D")
	dies(t, plain(t, main(code(null, throw))), "NullEx")
}
