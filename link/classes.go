package link

import (
	"slices"
	"strings"

	"lantern/api"
	"lantern/classfile"
)

// Classes links classes.
func Classes(l ...api.Class) (*Prog, api.Errno, string) {
	if len(l) > api.MaxClasses {
		return nil, api.ErrLimit, ""
	}
	for _, c := range l {
		if e := classfile.Check(c); e != api.OK {
			return nil, e, strings.Clone(c.Name)
		}
	}
	p := together(l)
	for _, keeps := range rules() {
		for _, c := range l {
			if !keeps(p, c) {
				return nil, api.ErrLink, strings.Clone(c.Name)
			}
		}
	}
	return p, api.OK, ""
}

// Files links files.
func Files(l ...[]byte) (*Prog, api.Errno, int) {
	var classes []api.Class
	for i, b := range l {
		c, e, _ := classfile.Decode(b)
		if e != api.OK {
			return nil, e, i
		}
		classes = append(classes, c)
	}
	p, e, name := Classes(classes...)
	if e != api.OK {
		// Beside more than MaxClasses no Name is told, and no class has it.
		first := slices.IndexFunc(classes, func(c api.Class) bool { return c.Name == name })
		return nil, e, max(first, 0)
	}
	return p, api.OK, 0
}

// together lays classes beside the given ones, whether they go together or not.
func together(l []api.Class) *Prog {
	classes := Builtin()
	for _, c := range l {
		c = withOwnLists(c)
		ownTexts(&c)
		classes = append(classes, c)
	}
	slices.SortFunc(classes, func(a, b api.Class) int { return strings.Compare(a.Name, b.Name) })
	return &Prog{classes: classes}
}

// ownTexts gives a class, whose lists are its own, texts of its own: none of what was handed in is kept.
func ownTexts(c *api.Class) {
	own(&c.Name, &c.Super)
	for i := range c.Implements {
		own(&c.Implements[i])
	}
	for i := range c.Fields {
		own(&c.Fields[i].Name, &c.Fields[i].Desc)
	}
	for i := range c.Methods {
		m := &c.Methods[i]
		own(&m.Name, &m.Desc)
		for j := range m.Code {
			own(&m.Code[j].Class, &m.Code[j].Name, &m.Code[j].Desc)
		}
		for j := range m.Handlers {
			own(&m.Handlers[j].Class)
		}
	}
}

func own(texts ...*string) {
	for _, s := range texts {
		*s = strings.Clone(*s)
	}
}
