package module_test

import (
	"reflect"
	"slices"
	"strings"
	"testing"
	"unsafe"

	"scullery/api"
	"scullery/face"
	"scullery/module"
)

// Short ways to write sources, faces and imports.

func source(lines ...string) string { return strings.Join(lines, "\n") }

// lists: a text within so many brackets.
func lists(n int, s string) string {
	return strings.Repeat("[", n) + s + strings.Repeat("]", n)
}

// known: names and kinds, by turns.
func known(s ...string) []api.Known {
	var l []api.Known
	for i := 0; i < len(s); i += 2 {
		l = append(l, api.Known{Name: s[i], Is: s[i+1]})
	}
	return l
}

// takes: what a function takes, and last what it tells.
func takes(name string, s ...string) api.Sig {
	return api.Sig{Name: name, Params: s[:len(s)-1], Result: s[len(s)-1]}
}

func at(where string, code int) api.Diag { return api.Diag{Where: where, Code: code} }

// faceM of the module m: most is a type of which a list still may be, long one of which none may.
func faceM() api.Face {
	return api.Face{
		Types: known("a", "int", "b", "[text]", "long", lists(298, "int"), "most", lists(297, "text")),
		Funcs: []api.Sig{takes("fun", "int", "text"), takes("id", "*", "*"), takes("none", "int")},
	}
}

// imports: of gone nothing is there, of none nothing is told, and bare shows nothing.
func imports() []api.Import {
	return []api.Import{{Name: "bare", There: true}, {Name: "gone"}, {Name: "m", There: true, Face: faceM()}, {Name: "n", There: true, Face: api.Face{Funcs: []api.Sig{takes("fun", "text", "int")}}}}
}

func uses(t *testing.T, s string, want ...string) {
	t.Helper()
	if got := module.Uses(s); !slices.Equal(got, want) {
		t.Errorf("Uses of %.300q: %q, want %q", s, got, want)
	}
}

// checks: imports that may be are handed in, and this is told.
func checks(t *testing.T, s string, l []api.Import, want api.Face, diags ...api.Diag) {
	t.Helper()
	f, d, e := module.Check(s, l)
	if e != api.OK || !face.Same(f, want) || !slices.Equal(d, diags) {
		t.Errorf("Check of %.500q: %.300v, %v, %v, want %.300v, %v", s, f, d, e, want, diags)
	}
}

// tells what is wrong, whatever the face is.
func tells(t *testing.T, s string, l []api.Import, diags ...api.Diag) {
	t.Helper()
	f, _, _ := module.Check(s, l)
	checks(t, s, l, f, diags...)
}

// none: the source can't be read.
func none(t *testing.T, s string) {
	t.Helper()
	uses(t, s)
	for _, l := range [][]api.Import{nil, {}, imports()} {
		checks(t, s, l, api.Face{}, at("", api.Syntax))
	}
}

// refuses imports that may not be, with every source.
func refuses(t *testing.T, l []api.Import, want api.Errno) {
	t.Helper()
	for _, s := range []string{"", "func f(): int = 1", "use a\ntype b = a.b\nfunc f(): text = 1", "oh", strings.Repeat(" ", api.MaxSource+1)} {
		f, d, e := module.Check(s, l)
		if e != want || !face.Same(f, api.Face{}) || len(d) > 0 {
			t.Errorf("Check of %.50q with %.300v: %v, %v, %v, want %v", s, l, f, d, e, want)
		}
	}
}

// draw: numbers that look drawn, the same each time.
type draw uint64

func (d *draw) n(most int) int {
	*d = *d*6364136223846793005 + 1442695040888963407
	return int(uint64(*d>>33) % uint64(most))
}

func (d *draw) of(l ...string) string { return l[d.n(len(l))] }

func (d *draw) kind() string {
	return d.of("int", "int", "int", "int", "int", "text", "text", "text", "[int]", "[[text]]", "a", "a", "b", "[c]", "m.a", "m.b", "m.long", "[m.most]", "m.none", "gone.a", "t", "[t]", "none")
}

func (d *draw) expr(depth int) string {
	k := d.n(12)
	if depth == 4 {
		k = d.n(7)
	}
	switch k {
	case 0, 1:
		return "1"
	case 2:
		return `"x"`
	case 3, 4, 5:
		return d.of("p", "p", "q", "z")
	case 6:
		return d.of("f()", "m.none()", "m.fun()", "m.none(1)")
	case 7:
		return d.expr(depth+1) + " + " + d.expr(depth+1)
	case 8:
		return "[" + d.expr(depth+1) + "]"
	case 9:
		return d.expr(depth+1) + "[0]"
	case 10:
		return d.of("m.id", "m.fun", "n.fun", "gone.fun") + "(" + d.expr(depth+1) + ")"
	}
	return d.of("f", "g", "h") + "(" + d.expr(depth+1) + ")"
}

func (d *draw) line() string {
	switch d.n(8) {
	case 0, 1:
		return "use " + d.of("m", "m", "n", "bare", "gone", "none")
	case 2, 3:
		return "type " + d.of("a", "b", "c") + " = " + d.kind()
	}
	params := d.of("", "p: "+d.kind(), "p: "+d.kind()+", q: "+d.kind(), "p: int, p: int")
	return "func " + d.of("f", "g", "h", "i") + d.of("", "<t>") + "(" + params + "): " + d.kind() + " = " + d.expr(1)
}

// source of a few lines in any order, that can be read. Mostly m is used, as else little is right.
func (d *draw) source() string {
	l := []string{"use m"}[d.n(8)/7:]
	for range d.n(10) {
		l = append(l, d.line())
	}
	return source(l...)
}

// spare: a copy of imports with the spare room of all lists.
func spare(l []api.Import) []any {
	all := []any{slices.Clone(l[:cap(l)])}
	for _, i := range l {
		all = append(all, slices.Clone(i.Face.Types[:cap(i.Face.Types)]), slices.Clone(i.Face.Funcs[:cap(i.Face.Funcs)]))
		for _, f := range i.Face.Funcs {
			all = append(all, slices.Clone(f.Params[:cap(f.Params)]))
		}
	}
	return all
}

// withRoom: imports with something in the spare room of all lists.
func withRoom() []api.Import {
	l := imports()
	for i, one := range l {
		types, funcs := one.Face.Types, one.Face.Funcs
		for j, f := range funcs {
			funcs[j].Params = append(f.Params, "x", "y")[:len(f.Params)]
		}
		l[i].Face.Types = append(types, known("x", "y", "z", "y")...)[:len(types)]
		l[i].Face.Funcs = append(funcs, takes("x", "y"), takes("z", "y"))[:len(funcs)]
	}
	return append(l, api.Import{Name: "x"}, api.Import{Name: "y"})[:len(l)]
}

// span of memory.
type span struct{ from, to uintptr }

// spans: the memory of all lists within a value, spare room too, and of all texts that may not be constants of the program.
func spans(v reflect.Value) []span {
	var l []span
	switch v.Kind() {
	case reflect.Struct:
		for i := range v.NumField() {
			l = append(l, spans(v.Field(i))...)
		}
	case reflect.Slice:
		if v.Cap() > 0 {
			l = append(l, span{v.Pointer(), v.Pointer() + uintptr(v.Cap())*v.Type().Elem().Size()})
		}
		for i := range v.Len() {
			l = append(l, spans(v.Index(i))...)
		}
	case reflect.String:
		if s := v.String(); len(s) > 1 && s != "int" && s != "text" {
			from := uintptr(unsafe.Pointer(unsafe.StringData(s)))
			l = append(l, span{from, from + uintptr(len(s))})
		}
	}
	return l
}

// apart: no part of the values shares memory with any other part, of its own value or of another one.
func apart(t *testing.T, values ...any) {
	t.Helper()
	var all []span
	for _, v := range values {
		all = append(all, spans(reflect.ValueOf(v))...)
	}
	slices.SortFunc(all, func(a, b span) int { return int(a.from) - int(b.from) })
	for i := 1; i < len(all); i++ {
		if all[i].from < all[i-1].to {
			t.Errorf("memory is shared among %.300v", values)
			return
		}
	}
}
