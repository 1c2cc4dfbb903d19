package alias

import (
	"slices"

	"scullery/api"
	"scullery/face"
	"scullery/kind"
)

// used: the face itself, not a copy, of a module that is used and there.
func used(m api.Module, l []api.Import, name string) (api.Face, bool) {
	at := slices.IndexFunc(l, func(i api.Import) bool { return i.Name == name })
	if at < 0 || !l[at].There || !slices.Contains(m.Uses, name) {
		return api.Face{}, false
	}
	return l[at].Face, true
}

// checkUse: what is wrong with the use at a place; 0: nothing.
func checkUse(m api.Module, l []api.Import, at int) int {
	name := m.Uses[at]
	if slices.Contains(m.Uses[:at], name) {
		return api.Twice
	}
	if _, ok := used(m, l, name); !ok {
		return api.Missing
	}
	return 0
}

// ownType: the kind of the module's type at a place, or what is wrong with it.
func ownType(m api.Module, l []api.Import, at int) (string, int) {
	if named(m.Types, m.Types[at].Name) < at {
		return "", api.Twice
	}
	return Solve(m, l, "", m.Types[at].Is)
}

// named: the place of the first one with a name; below 0: there is none.
func named(l []api.Field, name string) int {
	return slices.IndexFunc(l, func(f api.Field) bool { return f.Name == name })
}

// solve a type, with a closure that finds the kinds of names.
func solve(t api.Type, find func(of, name string) (string, int)) (string, int) {
	switch t.Kind {
	case api.Int:
		return "int", 0
	case api.Text:
		return "text", 0
	case api.List:
		return solveList(t, find)
	}
	return find(t.Of, t.Name)
}

func solveList(t api.Type, find func(of, name string) (string, int)) (string, int) {
	// Of a list of nothing, which may not be, no kind is told, rather than a panic.
	if len(t.Args) == 0 {
		return "", api.NoType
	}
	elem, code := solve(t.Args[0], find)
	if code != 0 {
		return "", code
	}
	list, e := kind.ListOf(elem)
	if e != api.OK {
		return "", api.NoType
	}
	return list, 0
}

// finder of the kinds of names that a module may use, its own ones and those of others. It is good for one type alone: it keeps which ones it met, and takes none of them back, as a type has one name at most, so that each that it met is still being solved when it meets the next.
func finder(m api.Module, l []api.Import) func(of, name string) (string, int) {
	met := make([]bool, len(m.Types))
	var find func(of, name string) (string, int)
	find = func(of, name string) (string, int) {
		if of != "" {
			return imported(m, l, of, name)
		}
		at := named(m.Types, name)
		if at < 0 {
			return "", api.NoType
		}
		if met[at] {
			return "", api.Round
		}
		met[at] = true
		return solve(m.Types[at].Is, find)
	}
	return find
}

// imported: the kind of a type of another module.
func imported(m api.Module, l []api.Import, of, name string) (string, int) {
	f, ok := used(m, l, of)
	if !ok {
		return "", api.NoType
	}
	is, e := face.Type(f, name)
	if e != api.OK {
		return "", api.NoType
	}
	return is, 0
}
