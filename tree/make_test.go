package tree_test

import (
	"reflect"
	"slices"
	"testing"

	"scullery/api"
	"scullery/tree"
)

// Short ways to write types, expressions and modules.

func whole() api.Type                 { return api.Type{Kind: api.Int} }
func text() api.Type                  { return api.Type{Kind: api.Text} }
func list(t api.Type) api.Type        { return api.Type{Kind: api.List, Args: []api.Type{t}} }
func named(s string) api.Type         { return api.Type{Kind: api.Name, Name: s} }
func namedOf(of, s string) api.Type   { return api.Type{Kind: api.Name, Of: of, Name: s} }
func num(n int) api.Expr              { return api.Expr{Kind: api.Number, N: n} }
func quoted(s string) api.Expr        { return api.Expr{Kind: api.Quoted, S: s} }
func param(s string) api.Expr         { return api.Expr{Kind: api.Param, S: s} }
func sum(a, b api.Expr) api.Expr      { return api.Expr{Kind: api.Sum, Args: []api.Expr{a, b}} }
func at(l, place api.Expr) api.Expr   { return api.Expr{Kind: api.At, Args: []api.Expr{l, place}} }
func items(l ...api.Expr) api.Expr    { return api.Expr{Kind: api.Items, Args: l} }
func uses(l ...string) api.Module     { return api.Module{Uses: l} }
func types(l ...api.Field) api.Module { return api.Module{Types: l} }
func funcs(l ...api.Func) api.Module  { return api.Module{Funcs: l} }

func call(s string, l ...api.Expr) api.Expr {
	return api.Expr{Kind: api.Call, S: s, Args: l}
}

func callOf(of, s string, l ...api.Expr) api.Expr {
	return api.Expr{Kind: api.Call, Of: of, S: s, Args: l}
}

func field(name string, t api.Type) api.Field { return api.Field{Name: name, Is: t} }

// fun: a function of a body alone.
func fun(body api.Expr) api.Func {
	return api.Func{Name: "f", Result: whole(), Body: body}
}

// lists of lists: a type of a depth.
func lists(depth int, inner api.Type) api.Type {
	for range depth - 1 {
		inner = list(inner)
	}
	return inner
}

// nested: an expression of a depth.
func nested(depth int, inner api.Expr) api.Expr {
	for range depth - 1 {
		inner = items(inner)
	}
	return inner
}

// plain: the same module, with nil for each list that has no elements.
func plain(m api.Module) api.Module {
	out := api.Module{Uses: append([]string(nil), m.Uses...)}
	for _, f := range m.Types {
		out.Types = append(out.Types, field(f.Name, plainType(f.Is)))
	}
	for _, f := range m.Funcs {
		var params []api.Field
		for _, p := range f.Params {
			params = append(params, field(p.Name, plainType(p.Is)))
		}
		f.Params, f.Result, f.Body = params, plainType(f.Result), plainExpr(f.Body)
		out.Funcs = append(out.Funcs, f)
	}
	return out
}

func plainType(t api.Type) api.Type {
	var l []api.Type
	for _, arg := range t.Args {
		l = append(l, plainType(arg))
	}
	t.Args = l
	return t
}

func plainExpr(x api.Expr) api.Expr {
	var l []api.Expr
	for _, arg := range x.Args {
		l = append(l, plainExpr(arg))
	}
	x.Args = l
	return x
}

func same(a, b api.Module) bool { return reflect.DeepEqual(plain(a), plain(b)) }

// checks asks Check of a module.
func checks(t *testing.T, m api.Module, want api.Errno) {
	t.Helper()
	if e := tree.Check(m); e != want {
		t.Errorf("Check of %.200v: %v, want %v", m, e, want)
	}
}

// checksType asks Check of a type, wherever one stands.
func checksType(t *testing.T, is api.Type, want api.Errno) {
	t.Helper()
	checks(t, types(field("a", is)), want)
	checks(t, types(field("b", whole()), field("a", is)), want)
	f := fun(num(1))
	f.Result = is
	checks(t, funcs(f), want)
	f = fun(num(1))
	f.Params = []api.Field{field("p", whole()), field("q", is)}
	checks(t, funcs(f), want)
}

// checksExpr asks Check of an expression.
func checksExpr(t *testing.T, x api.Expr, want api.Errno) {
	t.Helper()
	checks(t, funcs(fun(x)), want)
	checks(t, funcs(fun(num(1)), fun(x)), want)
}

// shows asks Show for a text that it must tell.
func shows(t *testing.T, m api.Module, want string) {
	t.Helper()
	if s, e := tree.Show(m); s != want || e != api.OK {
		t.Errorf("Show of %.200v: %q, %v, want %q", m, s, e, want)
	}
}

// reads asks Read for a module that it must tell.
func reads(t *testing.T, s string, want api.Module) {
	t.Helper()
	if m, e := tree.Read(s); e != api.OK || !same(m, want) {
		t.Errorf("Read of %.200q: %v, %v, want %v", s, m, e, want)
	}
}

// refuses asks Read for an error, with nothing beside it.
func refuses(t *testing.T, s string, want api.Errno) {
	t.Helper()
	if m, e := tree.Read(s); e != want || !same(m, api.Module{}) {
		t.Errorf("Read of %.200q: %v, %v, want %v", s, m, e, want)
	}
}

// readsBody asks Read for the body of a function.
func readsBody(t *testing.T, s string, want api.Expr) {
	t.Helper()
	reads(t, "func f(): int = "+s, funcs(fun(want)))
}

// readsType asks Read for a type, wherever one stands.
func readsType(t *testing.T, s string, want api.Type) {
	t.Helper()
	reads(t, "type a = "+s, types(field("a", want)))
	f := fun(num(1))
	f.Result = want
	reads(t, "func f(): "+s+" = 1", funcs(f))
	f = fun(num(1))
	f.Params = []api.Field{field("p", want), field("q", want)}
	reads(t, "func f(p: "+s+", q: "+s+"): int = 1", funcs(f))
}

// refusesBody asks Read for an error in a body.
func refusesBody(t *testing.T, s string, want api.Errno) {
	t.Helper()
	refuses(t, "func f(): int = "+s, want)
}

// refusesType asks Read for an error in a type, wherever one stands.
func refusesType(t *testing.T, s string, want api.Errno) {
	t.Helper()
	refuses(t, "type a = "+s, want)
	refuses(t, "func f(): "+s+" = 1", want)
	refuses(t, "func f(p: int, q: "+s+"): int = 1", want)
}

// span of memory.
type span struct{ from, to uintptr }

// spans: the memory of all lists within a value, spare room too.
func spans(v reflect.Value) []span {
	var l []span
	switch v.Kind() {
	case reflect.Struct:
		for i := range v.NumField() {
			l = append(l, spans(v.Field(i))...)
		}
	case reflect.Slice:
		if v.Cap() > 0 {
			l = append(l, span{v.Pointer(), v.Pointer() + uintptr(v.Cap())*v.Type().Elem().Size()})
		}
		for i := range v.Len() {
			l = append(l, spans(v.Index(i))...)
		}
	}
	return l
}

// apart: no two of these share any memory.
func apart(t *testing.T, l []span) {
	t.Helper()
	slices.SortFunc(l, func(a, b span) int {
		if a.from < b.from {
			return -1
		}
		return 1
	})
	for i := 1; i < len(l); i++ {
		if l[i].from < l[i-1].to {
			t.Errorf("two lists share memory")
		}
	}
}
