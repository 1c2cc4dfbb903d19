package body

import (
	"slices"

	"scullery/alias"
	"scullery/api"
	"scullery/face"
)

// names finds what those in a body stand for; false: there is none.
type names struct {
	param    func(name string) (string, bool)
	function func(of, name string) (api.Sig, bool)
}

// params of a function, with what they are, one by one.
func params(l []api.Field, kinds []string) func(name string) (string, bool) {
	return func(name string) (string, bool) {
		at := slices.IndexFunc(l, func(p api.Field) bool { return p.Name == name })
		if at < 0 {
			return "", false
		}
		return kinds[at], true
	}
}

// functions that a module may call, its own ones and those of others.
func functions(m api.Module, l []api.Import, own api.Face) func(of, name string) (api.Sig, bool) {
	return func(of, name string) (api.Sig, bool) {
		f, ok := own, true
		if of != "" {
			f, ok = alias.From(m, l, of)
		}
		if !ok {
			return api.Sig{}, false
		}
		s, e := face.Func(f, name)
		return s, e == api.OK
	}
}
