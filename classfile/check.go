package classfile

import (
	"cmp"

	"lantern/api"
	"lantern/desc"
	"lantern/instr"
)

// Check tells whether one may be.
func Check(c api.Class) api.Errno {
	return cmp.Or(
		checkHead(c),
		firstFault(c.Fields, checkField),
		firstFault(c.Methods, checkMethod),
		checkPool(c),
	)
}

// firstFault is what check tells of the first of l that it refuses.
func firstFault[T any](l []T, check func(T) api.Errno) api.Errno {
	for _, x := range l {
		if e := check(x); e != api.OK {
			return e
		}
	}
	return api.OK
}

// checkHead looks at the class itself, and at how many fields and methods it has.
func checkHead(c api.Class) api.Errno {
	switch {
	case !desc.Name(c.Name), !emptyOrName(c.Super), firstFault(c.Implements, checkName) != api.OK:
		return api.ErrName
	case len(c.Implements) > api.MaxClasses, len(c.Fields) > api.MaxFields, len(c.Methods) > api.MaxMethods:
		return api.ErrLimit
	}
	return api.OK
}

func checkName(s string) api.Errno {
	if !desc.Name(s) {
		return api.ErrName
	}
	return api.OK
}

func emptyOrName(s string) bool { return s == "" || desc.Name(s) }

func checkField(f api.Field) api.Errno {
	if !desc.Name(f.Name) || !desc.Type(f.Desc) {
		return api.ErrName
	}
	return api.OK
}

func checkMethod(m api.Method) api.Errno {
	params, result, e := desc.Method(m.Desc)
	switch {
	case e != api.OK, !mayBeNamed(m, result):
		return api.ErrName
	case !within(m):
		return api.ErrLimit
	case m.Abstract && !bare(m), !m.Abstract && len(m.Code) == 0:
		return api.ErrForm
	case m.Abstract:
		return api.OK
	case m.Locals < arguments(m, params):
		return api.ErrIndex
	}
	return checkCode(m)
}

// mayBeNamed tells whether a method that is like m, with that result, may have its name.
func mayBeNamed(m api.Method, result string) bool {
	switch m.Name {
	case "<clinit>":
		return m.Static && m.Desc == "()V"
	case "<init>":
		return !m.Static && !m.Abstract && result == "V"
	}
	return desc.MethodName(m.Name)
}

// within tells whether a method keeps to its limits.
func within(m api.Method) bool {
	return 0 <= m.Stack && m.Stack <= api.MaxStack &&
		0 <= m.Locals && m.Locals <= api.MaxLocals &&
		len(m.Code) <= api.MaxCode && len(m.Handlers) <= api.MaxHandlers
}

// bare tells whether a method has nothing that an abstract one may not have.
func bare(m api.Method) bool {
	return !m.Static && m.Stack == 0 && m.Locals == 0 && len(m.Code) == 0 && len(m.Handlers) == 0
}

// arguments is how many locals a method finds filled: by its parameters, and by the object that it is called on.
func arguments(m api.Method, params []string) int {
	n := desc.Words(params)
	if !m.Static {
		n++
	}
	return n
}

func checkCode(m api.Method) api.Errno {
	length := len(m.Code)
	return cmp.Or(
		firstFault(m.Code, func(x api.Instr) api.Errno { return instr.Check(x, length, m.Locals) }),
		firstFault(m.Handlers, func(h api.Handler) api.Errno { return checkHandler(h, length) }),
	)
}

// checkHandler looks at one of a method of so many instructions.
func checkHandler(h api.Handler, length int) api.Errno {
	switch {
	case h.From < 0, h.From >= h.To, h.To > length, h.At < 0, h.At >= length:
		return api.ErrIndex
	case !emptyOrName(h.Class):
		return api.ErrName
	}
	return api.OK
}

func checkPool(c api.Class) api.Errno {
	if len(Pool(c)) > api.MaxPool {
		return api.ErrLimit
	}
	return api.OK
}
