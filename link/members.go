package link

import (
	"slices"

	"lantern/api"
)

// The chapter does not list these two: they are for the packages below, which look for one field or method in many
// classes, and need no copy of each of these classes for it.

// Field is a class's own one of that Name.
func (p *Prog) Field(class, name string) (api.Field, bool) {
	c := p.find(class)
	if c == nil {
		return api.Field{}, false
	}
	i := slices.IndexFunc(c.Fields, func(f api.Field) bool { return f.Name == name })
	if i < 0 {
		return api.Field{}, false
	}
	return c.Fields[i], true
}

// Method is a class's own one of that Name and Desc.
func (p *Prog) Method(class, name, desc string) (api.Method, bool) {
	c := p.find(class)
	if c == nil {
		return api.Method{}, false
	}
	i := slices.IndexFunc(c.Methods, func(m api.Method) bool { return m.Name == name && m.Desc == desc })
	if i < 0 {
		return api.Method{}, false
	}
	return withOwnCode(c.Methods[i]), true
}
