package link

import (
	"slices"

	"lantern/api"
)

// rule tells whether a class of a program keeps it. It may lean on this, that all classes keep those ahead of it.
type rule func(p *Prog, c api.Class) bool

// rules are in the order in which they are told.
func rules() []rule {
	return []rule{
		alone,
		hasSuper,
		hasInterfaces,
		inNoRing,
		membersOnce,
		fitInterface,
		fitConcrete,
		answersAll,
	}
}

// alone tells whether no other class has its Name.
func alone(p *Prog, c api.Class) bool {
	return len(p.namesOf(func(d *api.Class) bool { return d.Name == c.Name })) == 1
}

func hasSuper(p *Prog, c api.Class) bool {
	if c.Interface {
		return c.Super == "Object"
	}
	super := p.find(c.Super)
	return super != nil && !super.Interface && super.Name != "Sys"
}

func hasInterfaces(p *Prog, c api.Class) bool {
	for _, name := range c.Implements {
		if d := p.find(name); d == nil || !d.Interface {
			return false
		}
	}
	return !twice(c.Implements)
}

// inNoRing tells whether neither supers nor interfaces lead from a class back to it. One that leads into a ring of others
// keeps the rule: those others break it.
func inNoRing(p *Prog, c api.Class) bool {
	_, again := p.walk(c.Name)
	return (again == nil || again.Name != c.Name) && !slices.Contains(p.interfaces(c.Name), c.Name)
}

func membersOnce(_ *Prog, c api.Class) bool {
	var fields []string
	for _, f := range c.Fields {
		fields = append(fields, f.Name)
	}
	var methods [][2]string
	for _, m := range c.Methods {
		methods = append(methods, [2]string{m.Name, m.Desc})
	}
	return !twice(fields) && !twice(methods)
}

func fitInterface(_ *Prog, c api.Class) bool {
	if !c.Interface {
		return true
	}
	ofObjects := func(f api.Field) bool { return !f.Static }
	withCode := func(m api.Method) bool { return !m.Abstract && m.Name != "<clinit>" }
	return c.Abstract && !slices.ContainsFunc(c.Fields, ofObjects) && !slices.ContainsFunc(c.Methods, withCode)
}

func fitConcrete(_ *Prog, c api.Class) bool {
	isAbstract := func(m api.Method) bool { return m.Abstract }
	return c.Abstract || !slices.ContainsFunc(c.Methods, isAbstract)
}

// answersAll tells whether a class that can be made has code for each abstract method that it comes by.
func answersAll(p *Prog, c api.Class) bool {
	if c.Abstract {
		return true
	}
	supers, _ := p.walk(c.Name)
	above := slices.Clone(supers)
	for _, name := range p.interfaces(c.Name) {
		above = append(above, p.find(name))
	}
	for _, d := range above {
		for _, m := range d.Methods {
			if m.Abstract && !answered(supers, m) {
				return false
			}
		}
	}
	return true
}

// answered tells whether one of the supers has a method in the place of m, an abstract one.
func answered(supers []*api.Class, m api.Method) bool {
	answers := func(o api.Method) bool {
		return o.Name == m.Name && o.Desc == m.Desc && !o.Static && !o.Abstract
	}
	return slices.ContainsFunc(supers, func(c *api.Class) bool { return slices.ContainsFunc(c.Methods, answers) })
}

// twice tells whether two of l are the same.
func twice[T comparable](l []T) bool {
	for i, x := range l {
		if slices.Contains(l[:i], x) {
			return true
		}
	}
	return false
}
