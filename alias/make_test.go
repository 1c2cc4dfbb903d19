package alias_test

import (
	"reflect"
	"slices"
	"strings"
	"testing"
	"unsafe"

	"scullery/alias"
	"scullery/api"
	"scullery/face"
	"scullery/tree"
)

// Short ways to write modules, types and imports.

func whole(t *testing.T, source ...string) api.Module {
	t.Helper()
	m, e := tree.Read(strings.Join(source, "\n"))
	if e != api.OK {
		t.Fatalf("%q: %v", source, e)
	}
	return m
}

func number() api.Type { return api.Type{Kind: api.Int} }

func text() api.Type { return api.Type{Kind: api.Text} }

func own(name string) api.Type { return api.Type{Kind: api.Name, Name: name} }

func of(module, name string) api.Type { return api.Type{Kind: api.Name, Of: module, Name: name} }

// list: a type within so many lists.
func list(n int, t api.Type) api.Type {
	for range n {
		t = api.Type{Kind: api.List, Args: []api.Type{t}}
	}
	return t
}

// lists: a text within so many brackets.
func lists(n int, s string) string {
	return strings.Repeat("[", n) + s + strings.Repeat("]", n)
}

func there(name string, f api.Face) api.Import { return api.Import{Name: name, There: true, Face: f} }

func gone(name string) api.Import { return api.Import{Name: name} }

// known: names and kinds, by turns.
func known(s ...string) []api.Known {
	var l []api.Known
	for i := 0; i < len(s); i += 2 {
		l = append(l, api.Known{Name: s[i], Is: s[i+1]})
	}
	return l
}

// faceM of the module m.
func faceM() api.Face {
	return api.Face{
		Types: known("a", "int", "b", "[text]", "long", lists(298, "int"), "longer", lists(298, "text"), "most", lists(297, "text"), "x", "[[int]]"),
		Funcs: []api.Sig{{Name: "fun", Params: []string{"int", "[*]"}, Result: "*"}, {Name: "g", Result: "text"}},
	}
}

// imports: of gone nothing is there, of none nothing is told, and bare shows nothing.
func imports(t *testing.T) []api.Import {
	t.Helper()
	l := []api.Import{there("bare", api.Face{}), gone("gone"), there("m", faceM()), there("n", api.Face{Types: known("a", "text")})}
	if e := face.CheckImports(l); e != api.OK {
		t.Fatalf("imports: %v", e)
	}
	return l
}

func diags(l ...api.Diag) []api.Diag { return l }

func at(where string, code int) api.Diag { return api.Diag{Where: where, Code: code} }

func usesAre(t *testing.T, m api.Module, l []api.Import, want ...api.Diag) {
	t.Helper()
	if got := alias.Uses(m, l); !slices.Equal(got, want) {
		t.Errorf("Uses of %v: %v, want %v", m.Uses, got, want)
	}
}

func solved(t *testing.T, m api.Module, l []api.Import, v string, is api.Type, want string) {
	t.Helper()
	if s, code := alias.Solve(m, l, v, is); s != want || code != 0 {
		t.Errorf("Solve of %v, with %q, in %.300v: %.40q, %d, want %.40q", is, v, m, s, code, want)
	}
}

func unsolved(t *testing.T, m api.Module, l []api.Import, v string, is api.Type, want int) {
	t.Helper()
	if s, code := alias.Solve(m, l, v, is); s != "" || code != want {
		t.Errorf("Solve of %v, with %q, in %.300v: %.40q, %d, want %d", is, v, m, s, code, want)
	}
}

func typesAre(t *testing.T, m api.Module, l []api.Import, want []api.Known, wrong []api.Diag) {
	t.Helper()
	k, d := alias.Types(m, l)
	if !slices.Equal(k, want) || !slices.Equal(d, wrong) {
		t.Errorf("Types of %.300v: %.300v, %v, want %.300v, %v", m.Types, k, d, want, wrong)
	}
}

// draw: numbers that look drawn, the same each time.
type draw uint64

func (d *draw) n(most int) int {
	*d = *d*6364136223846793005 + 1442695040888963407
	return int(uint64(*d>>33) % uint64(most))
}

func (d *draw) of(l ...string) string { return l[d.n(len(l))] }

func (d *draw) name() string { return d.of("a", "b", "c", "d", "e", "f") }

// kind: a type as it is written, mostly another one's name.
func (d *draw) kind() api.Type {
	switch d.n(10) {
	case 0:
		return list(d.n(10), number())
	case 1:
		return text()
	case 2:
		return list(d.n(5), of(d.of("m", "n", "gone", "none", "bare"), d.of("a", "b", "long", "most", "none")))
	case 3:
		return list(d.n(2), own("none"))
	}
	return list(d.n(3), own(d.name()))
}

// module of a few uses and types.
func (d *draw) module() api.Module {
	var m api.Module
	for range d.n(5) {
		m.Uses = append(m.Uses, d.of("m", "m", "n", "gone", "none", "bare"))
	}
	for range d.n(8) {
		m.Types = append(m.Types, api.Field{Name: d.name(), Is: d.kind()})
	}
	return m
}

// span of memory.
type span struct{ from, to uintptr }

// spans: the memory of all lists within a value, spare room too, and of all texts of more than one byte (shorter ones Go itself may lay where it likes).
func spans(v reflect.Value) []span {
	var l []span
	switch v.Kind() {
	case reflect.Struct:
		for i := range v.NumField() {
			l = append(l, spans(v.Field(i))...)
		}
	case reflect.Slice:
		if v.Cap() > 0 {
			l = append(l, span{v.Pointer(), v.Pointer() + uintptr(v.Cap())*v.Type().Elem().Size()})
		}
		for i := range v.Len() {
			l = append(l, spans(v.Index(i))...)
		}
	case reflect.String:
		if s := v.String(); len(s) > 1 {
			from := uintptr(unsafe.Pointer(unsafe.StringData(s)))
			l = append(l, span{from, from + uintptr(len(s))})
		}
	}
	return l
}

// apart: no part of one value shares memory with a part of another one.
func apart(t *testing.T, values ...any) {
	t.Helper()
	for i, a := range values {
		for _, b := range values[:i] {
			for _, x := range spans(reflect.ValueOf(a)) {
				if slices.ContainsFunc(spans(reflect.ValueOf(b)), func(y span) bool { return x.from < y.to && y.from < x.to }) {
					t.Errorf("%.100v and %.100v share memory", a, b)
				}
			}
		}
	}
}
