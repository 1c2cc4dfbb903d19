package sign

import (
	"slices"
	"strings"

	"scullery/api"
)

// declared: has one of these functions the name?
func declared(l []api.Func, name string) bool {
	return slices.ContainsFunc(l, func(f api.Func) bool { return f.Name == name })
}

// taken: has one of these params the name?
func taken(l []api.Field, name string) bool {
	return slices.ContainsFunc(l, func(p api.Field) bool { return p.Name == name })
}

// sig of a function whose name is its own, with a closure that tells the kinds of types.
func sig(f api.Func, solve func(t api.Type) (string, int)) (api.Sig, int) {
	params, code := takes(f.Params, solve)
	if code != 0 {
		return api.Sig{}, code
	}
	result, code := solve(f.Result)
	if code != 0 {
		return api.Sig{}, code
	}
	return api.Sig{Name: strings.Clone(f.Name), Params: params, Result: result}, 0
}

// takes: the kinds of params, or what is wrong with the first one that is not right.
func takes(l []api.Field, solve func(t api.Type) (string, int)) ([]string, int) {
	kinds := make([]string, len(l))
	for i, p := range l {
		if taken(l[:i], p.Name) {
			return nil, api.Twice
		}
		is, code := solve(p.Is)
		if code != 0 {
			return nil, code
		}
		kinds[i] = is
	}
	return kinds, 0
}
