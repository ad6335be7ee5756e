package link

import (
	"lantern/api"
	"lantern/desc"
)

// Builtin is the given classes.
func Builtin() []api.Class {
	l := []api.Class{withInit("Object", ""), withInit("Throwable", "Object")}
	for _, name := range []string{"NullEx", "BoundsEx", "StoreEx", "CastEx", "ArithEx", "MemEx", "DepthEx", "InitEx"} {
		l = append(l, withInit(name, "Throwable"))
	}
	return append(l, task(), sys())
}

// withInit is a class that has an `<init>`, which does nothing.
func withInit(name, super string) api.Class {
	return api.Class{
		Name:    name,
		Super:   super,
		Methods: []api.Method{{Name: "<init>", Desc: "()V", Locals: 1, Code: onlyReturn()}},
	}
}

func task() api.Class {
	return api.Class{
		Name:      "Task",
		Super:     "Object",
		Interface: true,
		Abstract:  true,
		Methods:   []api.Method{{Name: "run", Desc: "()V", Abstract: true}},
	}
}

func sys() api.Class {
	return api.Class{
		Name:     "Sys",
		Super:    "Object",
		Abstract: true,
		Methods: []api.Method{
			native("pick", "()I"),
			native("echo", "(LObject;)LObject;"),
			native("fresh", "()LObject;"),
			native("call", "(LTask;)V"),
		},
	}
}

// native is a method of Sys: its code stands there only because a method that is not abstract must have some.
func native(name, d string) api.Method {
	params, _, _ := desc.Method(d)
	return api.Method{Name: name, Desc: d, Static: true, Locals: desc.Words(params), Code: onlyReturn()}
}

func onlyReturn() []api.Instr { return []api.Instr{{Op: api.Return}} }
