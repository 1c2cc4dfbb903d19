package body_test

import (
	"strings"
	"testing"

	"scullery/api"
	"scullery/body"
	"scullery/face"
	"scullery/sign"
	"scullery/tree"
)

// Short ways to write modules, expressions, kinds and imports.

func whole(t *testing.T, source ...string) api.Module {
	t.Helper()
	m, e := tree.Read(strings.Join(source, "\n"))
	if e != api.OK {
		t.Fatalf("%q: %v", source, e)
	}
	return m
}

func number(n int) api.Expr { return api.Expr{Kind: api.Number, N: n} }

func quoted(s string) api.Expr { return api.Expr{Kind: api.Quoted, S: s} }

func param(name string) api.Expr { return api.Expr{Kind: api.Param, S: name} }

func call(of, name string, args ...api.Expr) api.Expr {
	return api.Expr{Kind: api.Call, Of: of, S: name, Args: args}
}

func made(kind int, args ...api.Expr) api.Expr { return api.Expr{Kind: kind, Args: args} }

// list: a type within so many lists.
func list(n int, t api.Type) api.Type {
	for range n {
		t = api.Type{Kind: api.List, Args: []api.Type{t}}
	}
	return t
}

func own(name string) api.Type { return api.Type{Kind: api.Name, Name: name} }

// lists: a text within so many brackets.
func lists(n int, s string) string {
	return strings.Repeat("[", n) + s + strings.Repeat("]", n)
}

// known: names and kinds, by turns.
func known(s ...string) []api.Known {
	var l []api.Known
	for i := 0; i < len(s); i += 2 {
		l = append(l, api.Known{Name: s[i], Is: s[i+1]})
	}
	return l
}

// takes: what a function takes, and last what it tells.
func takes(name string, s ...string) api.Sig {
	return api.Sig{Name: name, Params: s[:len(s)-1], Result: s[len(s)-1]}
}

// faceM of the module m: most is a type of which a list still may be, long one of which none may.
func faceM() api.Face {
	return api.Face{
		Types: known("a", "int", "b", "[text]", "long", lists(298, "int"), "most", lists(297, "text")),
		Funcs: []api.Sig{
			takes("any", "*"),
			takes("both", "*", "*", "*"),
			takes("each", "[*]", "*", "[[*]]"),
			takes("fun", "int", "text"),
			takes("id", "*", "*"),
			takes("none", "int"),
			takes("two", "int", "text", "int"),
			takes("wrap", "*", "[[*]]"),
		},
	}
}

// imports: of gone nothing is there, of none nothing is told, and bare shows nothing.
func imports(t *testing.T) []api.Import {
	t.Helper()
	l := []api.Import{{Name: "bare", There: true}, {Name: "gone"}, {Name: "m", There: true, Face: faceM()}, {Name: "n", There: true, Face: api.Face{Funcs: []api.Sig{takes("fun", "text", "int")}}}}
	if e := face.CheckImports(l); e != api.OK {
		t.Fatalf("imports: %v", e)
	}
	return l
}

// one: of modules and imports that may be, with the module's face as own.
func one(t *testing.T, m api.Module, l []api.Import, place int, want int) {
	t.Helper()
	if e := tree.Check(m); e != api.OK {
		t.Fatalf("%v: %v", m, e)
	}
	f, _ := sign.Face(m, l)
	with(t, m, l, f, place, want)
}

// with a face of its own.
func with(t *testing.T, m api.Module, l []api.Import, f api.Face, place int, want int) {
	t.Helper()
	if e := face.Check(f); e != api.OK {
		t.Fatalf("%v: %v", f, e)
	}
	if got := body.One(m, l, f, place); got != want {
		source, _ := tree.Show(m)
		t.Errorf("One, at %d, of\n%s: %d, want %d", place, source, got, want)
	}
}

// head of the modules in which expressions are asked: the function of which they are the body stands behind it.
var head = []string{
	"use m",
	"use bare",
	"use gone",
	"type a = [b]",
	"type b = text",
	"func none(): int = 1",
	"func fun(p: int): int = p",
	"func two(p: text, q: [int]): text = p",
	"func id<t>(p: t): t = p",
	"func both<t>(p: t, q: t): t = p",
	"func each<t>(p: [t], q: t): [[t]] = [p]",
	"func any<t>(): t = any()",
	"func bad(p: gone.a): int = 1",
}

// takesAll: the params of that function.
const takesAll = "i: int, j: int, s: text, l: [int], k: [[int]], x: a, v: t, w: [t]"

// asked: what is wrong with an expression that should be of a kind, with the params above.
func asked(t *testing.T, x, kind string, want int) {
	t.Helper()
	m := whole(t, append(head[:len(head):len(head)], "func f<t>("+takesAll+"): "+kind+" = "+x)...)
	one(t, m, imports(t), len(m.Funcs)-1, want)
}

// is: an expression is that, and nothing else.
func is(t *testing.T, x, kind string) {
	t.Helper()
	for _, other := range []string{"int", "text", "t", "[int]", "[text]", "[t]", "[[int]]", "[[text]]", "[[t]]"} {
		if other == kind {
			asked(t, x, other, 0)
		} else {
			asked(t, x, other, api.Mismatch)
		}
	}
}

// wrong: something is wrong with an expression, whatever it should be.
func wrong(t *testing.T, x string, want int) {
	t.Helper()
	for _, kind := range []string{"int", "text", "t", "[int]"} {
		asked(t, x, kind, want)
	}
}
