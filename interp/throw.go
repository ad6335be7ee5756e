package interp

import (
	"slices"

	"lantern/api"
	"lantern/desc"
	"lantern/resolve"
	"lantern/subtype"
)

// raise throws a new object of one of the machine's own classes.
func (m *Machine) raise(class string) { m.throw(m.exception(class)) }

// exception makes one of the machine's own, of which the script is not asked.
func (m *Machine) exception(class string) int {
	return m.heap.New(desc.Of(class), "!"+class)
}

// throw throws an object at the top frame's place.
func (m *Machine) throw(ref int) {
	var class string
thrown:
	class = m.classOf(ref)
	m.tell(api.EThrow, m.top(), class)
	for len(m.frames) > 0 {
		f := m.top()
		if m.caught(f, ref, class) {
			return
		}
		m.pop()
		if f.role == initialiser {
			m.inits[f.class] = failed
			ref = m.exception(initEx)
			goto thrown
		}
	}
	m.state, m.thrown = Died, ref
}

// caught tells whether one of the frame's handlers catches the object, and goes on there.
func (m *Machine) caught(f *frame, ref int, class string) bool {
	i := slices.IndexFunc(f.method.Handlers, func(h api.Handler) bool {
		return h.From <= f.pc && f.pc < h.To && (h.Class == "" || subtype.Class(m.prog, class, h.Class))
	})
	if i < 0 {
		return false
	}
	f.pc = f.method.Handlers[i].At
	f.stack = []api.Value{refOf(ref)}
	m.tell(api.ECatch, f, class)
	// With that the lowest frame, the entry's, is behind its beginning.
	m.begun = m.begun || len(m.frames) == 1
	return true
}

// initialized asks for the initialisation of a class, and tells whether the step may go on; if not, a frame was pushed, or an
// InitEx thrown.
func (m *Machine) initialized(class string) bool {
	for _, c := range slices.Backward(m.prog.Supers(class)) {
		switch m.inits[c] {
		case failed:
			m.raise(initEx)
			return false
		case notBegun:
			if resolve.Clinit(m.prog, c) {
				m.begin(c)
				return false
			}
			m.inits[c] = done
		}
	}
	return true
}

// begin begins the initialisation of a class that has a `<clinit>`.
func (m *Machine) begin(class string) {
	x, _ := m.prog.Method(class, "<clinit>", "()V")
	f := newFrame(class, x, initialiser, nil)
	m.inits[class] = goingOn
	m.tell(api.EInit, m.top(), f.key)
	m.frames = append(m.frames, f)
}
