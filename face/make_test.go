package face_test

import (
	"reflect"
	"slices"
	"strings"
	"testing"

	"scullery/api"
	"scullery/face"
)

// Short ways to write faces, and what is in them.

func known(name, is string) api.Known { return api.Known{Name: name, Is: is} }

func types(l ...api.Known) api.Face { return api.Face{Types: l} }

func funcs(l ...api.Sig) api.Face { return api.Face{Funcs: l} }

func sig(name, result string, params ...string) api.Sig {
	return api.Sig{Name: name, Params: params, Result: result}
}

// names: idents in their order, one for each number below n.
func names(n int) []string {
	var l []string
	for i := range n {
		l = append(l, "n"+string([]byte{byte('a' + i/26), byte('a' + i%26)}))
	}
	return l
}

// faceOf so many types, and so many functions.
func faceOf(types, funcs int) api.Face {
	var f api.Face
	for _, s := range names(types) {
		f.Types = append(f.Types, known(s, "int"))
	}
	for _, s := range names(funcs) {
		f.Funcs = append(f.Funcs, sig(s, "text", "int"))
	}
	return f
}

// some face, with lists of all lengths.
func some() api.Face {
	return api.Face{
		Types: []api.Known{known("a", "int"), known("b", "[text]"), known("d", "[[int]]")},
		Funcs: []api.Sig{sig("a", "int"), sig("c", "*", "*", "[*]"), sig("d", "[text]", "text")},
	}
}

// lists: a text within so many brackets.
func lists(n int, s string) string {
	return strings.Repeat("[", n) + s + strings.Repeat("]", n)
}

// idents: names that may be, in their order.
func idents() []string {
	return []string{"a", "a0", "a1", "aa", "ab", "abcdefgh", "b", "fun", "funcs", "ints", "texts", "uses", "z", "z9"}
}

func noIdents() []string {
	return []string{"", " ", "use", "type", "func", "int", "text", "A", "1", "1a", "a b", "a.b", "a_b", "*", "[a]", "é", " a", "a ", "a\n", "\x00", "\xff", "abcdefghi", strings.Repeat("a", 1<<16)}
}

// closed: kinds without a variable.
func closed() []string {
	return []string{"int", "text", "[int]", "[text]", "[[int]]", lists(298, "int"), lists(298, "text")}
}

// open: kinds with one.
func open() []string {
	return []string{"*", "[*]", "[[*]]", lists(299, "*")}
}

// noKinds: texts that are none, be it that they are too long.
func noKinds() []string {
	return []string{"", " ", "a", "x", "in", "ints", "Int", "int ", " text", "[", "]", "[]", "[int", "int]", "[[int]", "[int]]", "**", "[**]", "*]", "[*", "[int][int]",
		"int,int", "\x00", "\xff", "a.b", strings.Repeat("a", 600), strings.Repeat("a", 601), lists(299, "int"), lists(299, "text"), lists(300, "*"), lists(1<<16, "int")}
}

func checks(t *testing.T, f api.Face, want api.Errno) {
	t.Helper()
	if e := face.Check(f); e != want {
		t.Errorf("Check of %.200v: %v, want %v", f, e, want)
	}
}

func checksImports(t *testing.T, want api.Errno, l ...api.Import) {
	t.Helper()
	if e := face.CheckImports(l); e != want {
		t.Errorf("CheckImports of %.200v: %v, want %v", l, e, want)
	}
}

// there: an import of a module with a face.
func there(name string, f api.Face) api.Import { return api.Import{Name: name, There: true, Face: f} }

// missing: an import of a module that is not there.
func missing(name string) api.Import { return api.Import{Name: name} }

// equal: as reflection sees it; a list without elements may be nil or not.
func equal(a, b api.Face) bool { return reflect.DeepEqual(plain(a), plain(b)) }

// plain: the same face, with nil for each list that has no elements.
func plain(f api.Face) api.Face {
	out := api.Face{Types: append([]api.Known(nil), f.Types...)}
	for _, g := range f.Funcs {
		out.Funcs = append(out.Funcs, plainSig(g))
	}
	return out
}

func plainSig(g api.Sig) api.Sig {
	g.Params = append([]string(nil), g.Params...)
	return g
}

// draw: numbers that look drawn, the same each time.
type draw uint64

func (d *draw) n(most int) int {
	*d = *d*6364136223846793005 + 1442695040888963407
	return int(uint64(*d>>33) % uint64(most))
}

func (d *draw) of(l ...string) string { return l[d.n(len(l))] }

// name: mostly one that may be.
func (d *draw) name() string { return d.of("a", "b", "c", "d", "e", "f", "g", "int") }

// kind: mostly one without a variable.
func (d *draw) kind() string {
	return d.of("int", "text", "[int]", "[text]", "int", "text", "int", "*", "[*]", "x")
}

// face of a few types and functions, mostly in their order.
func (d *draw) face() api.Face {
	var f api.Face
	for range d.n(4) {
		f.Types = append(f.Types, known(d.name(), d.kind()))
	}
	for range d.n(4) {
		g := sig(d.name(), d.kind())
		for range d.n(3) {
			g.Params = append(g.Params, d.kind())
		}
		f.Funcs = append(f.Funcs, g)
	}
	if d.n(4) > 0 {
		slices.SortFunc(f.Types, func(a, b api.Known) int { return strings.Compare(a.Name, b.Name) })
		slices.SortFunc(f.Funcs, func(a, b api.Sig) int { return strings.Compare(a.Name, b.Name) })
	}
	return f
}
