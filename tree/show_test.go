package tree_test

import (
	"slices"
	"strings"
	"testing"

	"scullery/api"
	"scullery/tree"
)

func TestP2_5ShowLines(t *testing.T) {
	shows(t, api.Module{}, "")
	shows(t, uses("a"), "use a\n")
	shows(t, uses("b", "a", "b"), "use b\nuse a\nuse b\n")
	shows(t, types(field("a", whole())), "type a = int\n")
	shows(t, types(field("b", text()), field("a", list(named("b")))), "type b = text\ntype a = [b]\n")
	shows(t, funcs(fun(num(7))), "func f(): int = 7\n")
	shows(t, api.Module{
		Funcs: []api.Func{fun(num(1)), fun(num(2))},
		Types: []api.Field{field("a", whole())},
		Uses:  []string{"m"},
	}, "use m\ntype a = int\nfunc f(): int = 1\nfunc f(): int = 2\n")
}

func TestP2_5ShowFuncs(t *testing.T) {
	p, q := field("p", whole()), field("q", list(namedOf("m", "a")))
	for _, c := range []struct {
		f    api.Func
		want string
	}{
		{api.Func{Name: "f", Result: text(), Body: quoted("")}, `func f(): text = ""`},
		{api.Func{Name: "f", Var: "t", Result: named("t"), Body: num(0)}, `func f<t>(): t = 0`},
		{api.Func{Name: "g", Params: []api.Field{p}, Result: whole(), Body: param("p")}, `func g(p: int): int = p`},
		{api.Func{Name: "g", Params: []api.Field{p, q}, Result: whole(), Body: param("p")}, `func g(p: int, q: [m.a]): int = p`},
		{api.Func{Name: "g", Var: "q", Params: []api.Field{p, q, p}, Result: list(text()), Body: items(num(1))}, `func g<q>(p: int, q: [m.a], p: int): [text] = [1]`},
	} {
		shows(t, funcs(c.f), c.want+"\n")
		reads(t, c.want, funcs(c.f))
	}
}

func TestP2_5ShowTypes(t *testing.T) {
	for _, c := range []struct {
		is   api.Type
		want string
	}{
		{whole(), "int"},
		{text(), "text"},
		{list(whole()), "[int]"},
		{list(list(text())), "[[text]]"},
		{named("a"), "a"},
		{namedOf("m", "a"), "m.a"},
		{list(namedOf("m", "a")), "[m.a]"},
		{lists(api.MaxNest, named("t")), strings.Repeat("[", api.MaxNest-1) + "t" + strings.Repeat("]", api.MaxNest-1)},
	} {
		shows(t, types(field("a", c.is)), "type a = "+c.want+"\n")
		readsType(t, c.want, c.is)
	}
}

func TestP2_5ShowExpressions(t *testing.T) {
	p := param("p")
	for _, c := range []struct {
		x    api.Expr
		want string
	}{
		{num(0), "0"},
		{num(10), "10"},
		{num(api.MaxNumber), "999999"},
		{quoted(""), `""`},
		{quoted(" a  + b "), `" a  + b "`},
		{p, "p"},
		{call("f"), "f()"},
		{call("f", p), "f(p)"},
		{call("f", p, num(1), call("g")), "f(p, 1, g())"},
		{callOf("m", "f"), "m.f()"},
		{callOf("m", "f", num(1), num(2)), "m.f(1, 2)"},
		{sum(num(1), num(2)), "(1 + 2)"},
		{sum(sum(num(1), num(2)), num(3)), "((1 + 2) + 3)"},
		{sum(num(1), sum(num(2), num(3))), "(1 + (2 + 3))"},
		{items(num(1)), "[1]"},
		{items(num(1), quoted("x"), items(p)), `[1, "x", [p]]`},
		{at(p, num(0)), "p[0]"},
		{at(at(p, num(0)), num(1)), "p[0][1]"},
		{at(p, at(p, num(1))), "p[p[1]]"},
		{at(sum(p, p), sum(num(1), num(2))), "(p + p)[(1 + 2)]"},
		{at(items(num(1), num(2)), num(0)), "[1, 2][0]"},
		{at(num(1), items(num(2))), "1[[2]]"},
		{at(quoted("a"), num(2)), `"a"[2]`},
		{at(callOf("m", "f", p), num(2)), "m.f(p)[2]"},
		{call("f", slices.Repeat([]api.Expr{num(1)}, api.MaxArgs)...), "f(1, 1, 1, 1, 1, 1, 1, 1)"},
	} {
		shows(t, funcs(fun(c.x)), "func f(): int = "+c.want+"\n")
		readsBody(t, c.want, c.x)
	}
}

func TestP2_5ShowRefuses(t *testing.T) {
	for i, c := range []struct {
		m    api.Module
		want api.Errno
	}{
		{uses(slices.Repeat([]string{"a"}, api.MaxLines+1)...), api.ErrSize},
		{uses("a", "int"), api.ErrForm},
		{types(field("a", whole()), field("b", api.Type{})), api.ErrKind},
		{types(field("a", lists(api.MaxNest+1, whole()))), api.ErrSize},
		{types(field("a", api.Type{Kind: api.List})), api.ErrForm},
		{funcs(fun(api.Expr{Kind: api.Sum})), api.ErrForm},
		{funcs(fun(api.Expr{Kind: api.At, Args: []api.Expr{num(1)}})), api.ErrForm},
		{funcs(fun(num(1)), fun(num(api.MaxNumber+1))), api.ErrRange},
		{funcs(api.Func{}), api.ErrForm},
	} {
		if s, e := tree.Show(c.m); s != "" || e != c.want {
			t.Errorf("case %d: %q, %v, want %v", i, s, e, c.want)
		}
	}
}

// A text may be longer than what Read takes.
func TestP2_5ShowOfTheLongest(t *testing.T) {
	x := quoted(strings.Repeat("x", api.MaxQuote))
	body := call("f", slices.Repeat([]api.Expr{call("f", slices.Repeat([]api.Expr{x}, api.MaxArgs)...)}, api.MaxArgs)...)
	s, e := tree.Show(funcs(slices.Repeat([]api.Func{fun(body)}, api.MaxLines)...))
	if e != api.OK || strings.Count(s, x.S) != api.MaxLines*api.MaxArgs*api.MaxArgs || strings.Count(s, "\n") != api.MaxLines {
		t.Errorf("%d bytes, %v", len(s), e)
	}
	refuses(t, s, api.ErrSize)
}
