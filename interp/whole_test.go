package interp

import (
	"fmt"
	"strings"

	"lantern/api"
	"lantern/heap"
	"lantern/link"
)

// whole is all that can be told of a machine of a program, in one text.
func whole(p *link.Prog, m *Machine) string {
	var b strings.Builder
	fmt.Fprintln(&b, m.State(), m.Thrown(), m.Steps())
	fmt.Fprintln(&b, strings.Join(shown(m), "\n"))
	for _, f := range m.Frames() {
		fmt.Fprintln(&b, f.Method, f.PC, allBits(f.Locals), "|", allBits(f.Stack))
	}
	b.WriteString(wholeHeap(m.Heap()))
	for _, name := range p.Names() {
		c, _ := p.Class(name)
		fmt.Fprintln(&b, name, m.Init(name))
		for _, f := range c.Fields {
			v, ok := m.Static(name, f.Name)
			fmt.Fprintln(&b, f.Name, bits(v), ok)
		}
	}
	return b.String()
}

// wholeHeap is all objects.
func wholeHeap(h *heap.Heap) string {
	var b strings.Builder
	for ref := 1; ref <= h.Count(); ref++ {
		fmt.Fprint(&b, ref, " ", h.Type(ref), " ", h.Site(ref))
		for _, name := range h.Fields(ref) {
			v, _ := h.Get(ref, name)
			fmt.Fprint(&b, " ", name, "=", bits(v))
		}
		var l []api.Value
		for i := range max(h.Len(ref), 0) {
			v, _ := h.At(ref, i)
			l = append(l, v)
		}
		fmt.Fprintln(&b, " [", allBits(l), "]")
	}
	return b.String()
}
