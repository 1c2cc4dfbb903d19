package sign_test

import (
	"reflect"
	"slices"
	"strings"
	"testing"
	"unsafe"

	"scullery/api"
	"scullery/face"
	"scullery/sign"
	"scullery/tree"
)

// Short ways to write modules, types and imports.

func whole(t *testing.T, source ...string) api.Module {
	t.Helper()
	m, e := tree.Read(strings.Join(source, "\n"))
	if e != api.OK {
		t.Fatalf("%q: %v", source, e)
	}
	return m
}

func number() api.Type { return api.Type{Kind: api.Int} }

func own(name string) api.Type { return api.Type{Kind: api.Name, Name: name} }

func of(module, name string) api.Type { return api.Type{Kind: api.Name, Of: module, Name: name} }

// list: a type within so many lists.
func list(n int, t api.Type) api.Type {
	for range n {
		t = api.Type{Kind: api.List, Args: []api.Type{t}}
	}
	return t
}

// lists: a text within so many brackets.
func lists(n int, s string) string {
	return strings.Repeat("[", n) + s + strings.Repeat("]", n)
}

// known: names and kinds, by turns.
func known(s ...string) []api.Known {
	var l []api.Known
	for i := 0; i < len(s); i += 2 {
		l = append(l, api.Known{Name: s[i], Is: s[i+1]})
	}
	return l
}

// takes: what a function takes, and last what it tells.
func takes(name string, s ...string) api.Sig {
	return api.Sig{Name: name, Params: s[:len(s)-1], Result: s[len(s)-1]}
}

// faceM of the module m: most is a type of which a list still may be, long one of which none may.
func faceM() api.Face {
	return api.Face{
		Types: known("a", "int", "b", "[text]", "long", lists(298, "int"), "most", lists(297, "text")),
		Funcs: []api.Sig{takes("fun", "int", "[*]", "*"), takes("g", "text")},
	}
}

// imports: of gone nothing is there, of none nothing is told, and bare shows nothing.
func imports(t *testing.T) []api.Import {
	t.Helper()
	l := []api.Import{{Name: "bare", There: true}, {Name: "gone"}, {Name: "m", There: true, Face: faceM()}, {Name: "n", There: true, Face: api.Face{Types: known("a", "text")}}}
	if e := face.CheckImports(l); e != api.OK {
		t.Fatalf("imports: %v", e)
	}
	return l
}

func at(where string, code int) api.Diag { return api.Diag{Where: where, Code: code} }

func sameSig(a, b api.Sig) bool {
	return a.Name == b.Name && a.Result == b.Result && slices.Equal(a.Params, b.Params)
}

// right: nothing is wrong with the function at a place.
func right(t *testing.T, m api.Module, l []api.Import, place int, want api.Sig) {
	t.Helper()
	if s, code := sign.One(m, l, place); code != 0 || !sameSig(s, want) {
		t.Errorf("One, at %d, of %.300v: %.200v, %d, want %.200v", place, m, s, code, want)
	}
}

func wrong(t *testing.T, m api.Module, l []api.Import, place int, want int) {
	t.Helper()
	if s, code := sign.One(m, l, place); code != want || s.Name != "" || len(s.Params) > 0 || s.Result != "" {
		t.Errorf("One, at %d, of %.300v: %.200v, %d, want %d", place, m, s, code, want)
	}
}

func faceIs(t *testing.T, m api.Module, l []api.Import, want api.Face, diags ...api.Diag) {
	t.Helper()
	if f, d := sign.Face(m, l); !face.Same(f, want) || !slices.Equal(d, diags) {
		t.Errorf("Face of %.300v: %.300v, %v, want %.300v, %v", m, f, d, want, diags)
	}
}

// draw: numbers that look drawn, the same each time.
type draw uint64

func (d *draw) n(most int) int {
	*d = *d*6364136223846793005 + 1442695040888963407
	return int(uint64(*d>>33) % uint64(most))
}

func (d *draw) of(l ...string) string { return l[d.n(len(l))] }

// kind: a type as it is written, mostly one that may be solved.
func (d *draw) kind() api.Type {
	switch d.n(12) {
	case 0:
		return list(d.n(10), number())
	case 1:
		return api.Type{Kind: api.Text}
	case 2:
		return list(d.n(3), of(d.of("m", "m", "n", "gone", "none", "bare"), d.of("a", "b", "long", "most", "none")))
	case 3:
		return own("none")
	case 4, 5, 6:
		return list(d.n(3), own("t"))
	case 7, 8, 9:
		return list(d.n(3), own(d.of("a", "b", "c")))
	}
	return list(d.n(2), number())
}

func (d *draw) fun() api.Func {
	f := api.Func{Name: d.of("f", "g", "h", "i", "a", "m"), Var: d.of("", "t", "t", "t", "a"), Result: d.kind(), Body: api.Expr{Kind: api.Number}}
	for range d.n(4) {
		f.Params = append(f.Params, api.Field{Name: d.of("p", "q", "r", "s", "t", "a"), Is: d.kind()})
	}
	return f
}

// module of a few uses, types and functions.
func (d *draw) module() api.Module {
	var m api.Module
	for range d.n(4) {
		m.Uses = append(m.Uses, d.of("m", "m", "n", "gone", "none", "bare"))
	}
	for range d.n(4) {
		m.Types = append(m.Types, api.Field{Name: d.of("a", "b", "c"), Is: d.kind()})
	}
	for range d.n(6) {
		m.Funcs = append(m.Funcs, d.fun())
	}
	return m
}

// span of memory.
type span struct{ from, to uintptr }

// spans: the memory of all lists within a value, spare room too, and of all texts that may not be constants of the program.
func spans(v reflect.Value) []span {
	var l []span
	switch v.Kind() {
	case reflect.Struct:
		for i := range v.NumField() {
			l = append(l, spans(v.Field(i))...)
		}
	case reflect.Slice:
		if v.Cap() > 0 {
			l = append(l, span{v.Pointer(), v.Pointer() + uintptr(v.Cap())*v.Type().Elem().Size()})
		}
		for i := range v.Len() {
			l = append(l, spans(v.Index(i))...)
		}
	case reflect.String:
		if s := v.String(); len(s) > 1 && s != "int" && s != "text" {
			from := uintptr(unsafe.Pointer(unsafe.StringData(s)))
			l = append(l, span{from, from + uintptr(len(s))})
		}
	}
	return l
}

// apart: no part of the values shares memory with any other part, of its own value or of another one.
func apart(t *testing.T, values ...any) {
	t.Helper()
	var all []span
	for _, v := range values {
		all = append(all, spans(reflect.ValueOf(v))...)
	}
	slices.SortFunc(all, func(a, b span) int { return int(a.from) - int(b.from) })
	for i := 1; i < len(all); i++ {
		if all[i].from < all[i-1].to {
			t.Errorf("memory is shared among %.300v", values)
			return
		}
	}
}
