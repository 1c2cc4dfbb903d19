package record

import (
	"strings"

	"scullery/api"
	"scullery/face"
	"scullery/tree"
)

func noDiag(d api.Diag) bool {
	return d.Where != "" && !tree.Ident(d.Where) || d.Code < api.Syntax || d.Code > api.Mismatch
}

func sameImport(a, b api.Import) bool {
	return a.Name == b.Name && a.There == b.There && face.Same(a.Face, b.Face)
}

// copyEach of a list, without spare room. Texts are copied too, as what is answered shares no memory with an argument.
func copyEach[T any](l []T, one func(T) T) []T {
	out := make([]T, len(l))
	for i, x := range l {
		out[i] = one(x)
	}
	return out
}

func copyImport(i api.Import) api.Import {
	return api.Import{Name: strings.Clone(i.Name), There: i.There, Face: face.Copy(i.Face)}
}

func copyDiag(d api.Diag) api.Diag {
	return api.Diag{Where: strings.Clone(d.Where), Code: d.Code}
}
