package interp

import (
	"slices"
	"strconv"

	"lantern/api"
	"lantern/desc"
)

// role is why a frame is there, which tells what its return does.
type role int

const (
	called      role = iota // by a call; the entry's, too
	ran                     // as the run of what Sys.call was given
	initialiser             // as a `<clinit>`, for the instruction below to come anew
)

// frame is one.
type frame struct {
	class  string // whose the method is
	method api.Method
	key    string
	role   role
	pc     int
	locals []api.Value
	stack  []api.Value
}

// newFrame is one at the method's place 0, with the arguments in its first locals.
func newFrame(class string, x api.Method, r role, args []api.Value) *frame {
	f := &frame{class: class, method: x, key: desc.Key(class, x.Name, x.Desc), role: r}
	f.locals = make([]api.Value, x.Locals)
	copy(f.locals, args)
	return f
}

// site is that of what is made at the frame's place.
func (f *frame) site() string { return f.key + "@" + strconv.Itoa(f.pc) }

// lay puts values on the stack.
func (f *frame) lay(l ...api.Value) { f.stack = append(f.stack, l...) }

// taken is the n highest values, in memory of their own; there are as many.
func (f *frame) taken(n int) []api.Value { return slices.Clone(f.stack[len(f.stack)-n:]) }

// drop takes the n highest values off; there are as many.
func (f *frame) drop(n int) { f.stack = f.stack[:len(f.stack)-n] }

// has tells whether the local is there.
func (f *frame) has(local int) bool { return 0 <= local && local < len(f.locals) }

func intOf(n int) api.Value        { return api.Value{Kind: api.VInt, N: n} }
func cpxOf(c complex128) api.Value { return api.Value{Kind: api.VCpx, C: c} }
func refOf(ref int) api.Value      { return api.Value{Kind: api.VRef, N: ref} }

// yes is the int that tells whether something holds.
func yes(holds bool) api.Value {
	if holds {
		return intOf(1)
	}
	return intOf(0)
}
