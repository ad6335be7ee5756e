package interp

import (
	"lantern/api"
	"lantern/desc"
	"lantern/number"
	"lantern/resolve"
)

// call does a call, whose names lead to a target.
func (m *Machine) call(f *frame, x api.Instr, to target, args []api.Value) {
	ex, ok := nullEx, true
	switch {
	case x.Op == api.Callstatic && resolve.Native(to.owner):
		m.native(f, x, args)
		return
	case x.Op == api.Callstatic:
		// It has no receiver.
	case args[0].N == 0:
		goto thrown
	case x.Op != api.Callspecial:
		to.owner, to.method, ok = resolve.Dispatch(m.prog, m.classOf(args[0].N), x.Name, x.Desc)
		if !ok {
			m.state = Stuck
			return
		}
	}
	if m.deep() {
		ex = depthEx
		goto thrown
	}
	m.enter(f, to, called, args)
	return
thrown:
	m.raise(ex)
}

// native does what a method of Sys does.
func (m *Machine) native(f *frame, x api.Instr, args []api.Value) {
	m.tell(api.ENative, f, desc.Key(x.Class, x.Name, x.Desc))
	switch x.Name {
	case "call":
		m.run(f, args)
		return
	case "pick":
		f.lay(intOf(m.picked()))
	case "echo":
		// What it takes stays where its result goes.
	case "fresh":
		if !m.granted() {
			goto thrown
		}
		f.lay(refOf(m.heap.New(desc.Of(object), "fresh", FieldsOf(m.prog, object)...)))
	}
	f.pc++
	return
thrown:
	m.raise(memEx)
}

// run does Sys.call.
func (m *Machine) run(f *frame, args []api.Value) {
	var to target
	ex, ok := nullEx, true
	if args[0].N == 0 {
		goto thrown
	}
	if m.deep() {
		ex = depthEx
		goto thrown
	}
	to.owner, to.method, ok = resolve.Dispatch(m.prog, m.classOf(args[0].N), "run", "()V")
	if !ok {
		m.state = Stuck
		return
	}
	m.enter(f, to, ran, args)
	return
thrown:
	m.raise(ex)
}

// picked is what the script picks next.
func (m *Machine) picked() int {
	if len(m.picks) == 0 {
		return 0
	}
	next := m.picks[0]
	m.picks = m.picks[1:]
	return number.Wrap(next)
}

// deep tells whether there are as many frames as calls may make.
func (m *Machine) deep() bool { return len(m.frames) >= api.MaxFrames }

// enter lays the target's frame above f, the top one, which gives the arguments.
func (m *Machine) enter(f *frame, to target, r role, args []api.Value) {
	g := newFrame(to.owner, to.method, r, args)
	m.tell(api.ECall, f, g.key)
	f.drop(len(args))
	m.frames = append(m.frames, g)
}

// leave leaves f, the top frame, by a Return, or by a Retval that tells a value.
func (m *Machine) leave(f *frame, told []api.Value) {
	m.pop()
	if len(m.frames) == 0 {
		m.tell(api.EEnd, f, "")
		m.state = Ended
		return
	}
	below := m.top()
	switch f.role {
	case initialiser:
		m.inits[f.class] = done
		return
	case called:
		below.lay(told...)
	}
	below.pc++
}

// top is the top frame of a machine that runs.
func (m *Machine) top() *frame { return m.frames[len(m.frames)-1] }

// pop takes the top frame off.
func (m *Machine) pop() {
	m.frames[len(m.frames)-1] = nil
	m.frames = m.frames[:len(m.frames)-1]
}

// tell shows an event at a frame's place.
func (m *Machine) tell(kind int, f *frame, what string) {
	m.events = append(m.events, api.Event{Kind: kind, Where: f.key, PC: f.pc, What: what})
}
