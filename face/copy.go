package face

import (
	"slices"
	"strings"

	"scullery/api"
)

// copyEach of a list, without spare room. Texts are copied too, as what is answered shares no memory with an argument.
func copyEach[T any](l []T, one func(T) T) []T {
	out := make([]T, len(l))
	for i, x := range l {
		out[i] = one(x)
	}
	return out
}

func copyType(t api.Known) api.Known {
	return api.Known{Name: strings.Clone(t.Name), Is: strings.Clone(t.Is)}
}

func copyFunc(f api.Sig) api.Sig {
	return api.Sig{Name: strings.Clone(f.Name), Params: copyEach(f.Params, strings.Clone), Result: strings.Clone(f.Result)}
}

func sameFunc(a, b api.Sig) bool {
	return a.Name == b.Name && a.Result == b.Result && slices.Equal(a.Params, b.Params)
}
