package face

import (
	"scullery/api"
	"scullery/kind"
	"scullery/tree"
)

// inOrder: what is wrong first with a list that stands by its names.
func inOrder[T any](l []T, nameOf func(one T) string, check func(one T) api.Errno) api.Errno {
	above := rising()
	for _, one := range l {
		if e := check(one); e != api.OK {
			return e
		}
		if !above(nameOf(one)) {
			return api.ErrOrder
		}
	}
	return api.OK
}

// rising asks names, one by one: is each above the one ahead? The first one is, as no ident is empty.
func rising() func(name string) bool {
	ahead := ""
	return func(name string) bool {
		above := name > ahead
		ahead = name
		return above
	}
}

func typeName(t api.Known) string { return t.Name }

func funcName(f api.Sig) string { return f.Name }

func importName(i api.Import) string { return i.Name }

func checkType(t api.Known) api.Errno {
	if !tree.Ident(t.Name) || !isKind(t.Is) || kind.Open(t.Is) {
		return api.ErrForm
	}
	return api.OK
}

func checkFunc(f api.Sig) api.Errno {
	if !tree.Ident(f.Name) || len(f.Params) > api.MaxArgs || !isKind(f.Result) {
		return api.ErrForm
	}
	for _, p := range f.Params {
		if !isKind(p) {
			return api.ErrForm
		}
	}
	return api.OK
}

func checkImport(i api.Import) api.Errno {
	if !tree.Ident(i.Name) {
		return api.ErrForm
	}
	if e := Check(i.Face); e != api.OK {
		return e
	}
	if !i.There && !empty(i.Face) {
		return api.ErrForm
	}
	return api.OK
}

// isKind: one that is too long is none here, too.
func isKind(s string) bool { return kind.Check(s) == api.OK }

func empty(f api.Face) bool { return len(f.Types) == 0 && len(f.Funcs) == 0 }
