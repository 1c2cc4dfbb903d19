package sign_test

import (
	"strconv"
	"strings"
	"testing"

	"scullery/api"
	"scullery/tree"
)

func TestP7_1One(t *testing.T) {
	m, l := whole(t,
		"use m",
		"type a = [text]",
		"func f(): int = 1",
		"func g(p: int): text = p",
		"func h(p: a, q: [a], r: m.a, s: [m.b]): [[m.a]] = 1",
		"func i(q: text, p: int): a = q",
	), imports(t)
	right(t, m, l, 0, takes("f", "int"))
	right(t, m, l, 1, takes("g", "int", "text"))
	right(t, m, l, 2, takes("h", "[text]", "[[text]]", "int", "[[text]]", "[[int]]"))
	right(t, m, l, 3, takes("i", "text", "int", "[text]"))
}

func TestP7_1OneWithAVariable(t *testing.T) {
	m := whole(t,
		"type a = int",
		"type b = t",
		"type c = [a]",
		"func f<t>(p: t, q: [[t]]): [t] = p",
		"func g(p: int): t = p",
		"func h<s>(p: t): int = 1",
		"func i<a>(p: a, q: c): [a] = q",
		"func j<t>(): t = 1",
		"func k<t>(p: b): int = 1",
		"func n<n>(n: n): n = n",
		"func o<t>(p: int): text = p",
	)
	right(t, m, nil, 0, takes("f", "*", "[[*]]", "[*]"))
	// That of another function is none of its own.
	wrong(t, m, nil, 1, api.NoType)
	wrong(t, m, nil, 2, api.NoType)
	// It is ahead of a type of its name, but is unknown within types.
	right(t, m, nil, 3, takes("i", "*", "[int]", "[*]"))
	right(t, m, nil, 4, takes("j", "*"))
	wrong(t, m, nil, 5, api.NoType)
	// Names of functions, variables and params do not meet.
	right(t, m, nil, 6, takes("n", "*", "*"))
	right(t, m, nil, 7, takes("o", "int", "text"))
}

func TestP7_1TwiceOfFunctions(t *testing.T) {
	m := whole(t, "func f(): int = 1", "func g(): int = 1", "func f(): int = 1", "func f(p: int): text = p", "func g<t>(p: t): t = p", "func h(): int = 1")
	for i, code := range []int{0, 0, api.Twice, api.Twice, api.Twice, 0} {
		if code == 0 {
			right(t, m, nil, i, takes(m.Funcs[i].Name, "int"))
		} else {
			wrong(t, m, nil, i, code)
		}
	}
	// What is wrong with the one ahead frees no name, and what is wrong with its own types is told behind it.
	m = whole(t, "func f(): none = 1", "func f(): int = 1", "func g(): int = 1", "func g(p: none): none = 1")
	wrong(t, m, nil, 0, api.NoType)
	wrong(t, m, nil, 1, api.Twice)
	wrong(t, m, nil, 3, api.Twice)
	// Types, and modules that are used, are no functions.
	m = whole(t, "use m", "type f = int", "func f(): f = 1", "func m(): int = 1", "func fun(): int = 1")
	right(t, m, imports(t), 0, takes("f", "int"))
	right(t, m, imports(t), 1, takes("m", "int"))
	right(t, m, imports(t), 2, takes("fun", "int"))
}

func TestP7_1TwiceOfParams(t *testing.T) {
	for _, params := range []string{"p: int, p: int", "p: int, q: int, p: text", "q: int, p: int, p: [int]", "p: t, p: t"} {
		wrong(t, whole(t, "func f<t>("+params+"): int = 1"), nil, 0, api.Twice)
	}
	// Params of another function are not ahead, nor are a function, a type or a variable.
	m := whole(t, "type p = int", "func f(p: int): int = p", "func q<t>(p: p, q: int, t: t): int = p")
	right(t, m, nil, 0, takes("f", "int", "int"))
	right(t, m, nil, 1, takes("q", "int", "int", "*", "int"))
}

// What Solve tells, of params and of the result.
func TestP7_1WhatSolveTells(t *testing.T) {
	l := imports(t)
	head := []string{"use m", "use gone", "type a = [b]", "type b = a", "type c = c"}
	for is, code := range map[string]int{
		"none": api.NoType, "[[none]]": api.NoType, "m.none": api.NoType, "m.fun": api.NoType, "gone.a": api.NoType, "n.a": api.NoType, "none.a": api.NoType, "[m.long]": api.NoType, "[[m.most]]": api.NoType, "f": api.NoType, "t": api.NoType,
		"a": api.Round, "[b]": api.Round, "c": api.Round,
	} {
		for _, line := range []string{"func f(p: " + is + "): int = p", "func f(p: int, q: " + is + "): int = p", "func f(): " + is + " = 1", "func f<s>(p: s, q: text): " + is + " = 1"} {
			wrong(t, whole(t, append(head, line)...), l, 0, code)
		}
	}
	right(t, whole(t, "use m", "func f(p: m.long, q: [m.most]): m.most = p"), l, 0, takes("f", lists(298, "int"), lists(298, "text"), lists(297, "text")))
	wrong(t, whole(t, "use m", "func f(p: m.a): int = p"), nil, 0, api.NoType)
}

// Where several things are wrong, the first one is told: the name, then param by param its name and its type, then the result.
func TestP7_1WhatIsWrongFirst(t *testing.T) {
	for line, code := range map[string]int{
		"func g(p: none, p: int): a = 1":         api.Twice,
		"func g(p: a, p: a): none = 1":           api.Twice,
		"func f(p: none, p: int): int = 1":       api.NoType,
		"func f(p: a, p: none): int = 1":         api.Round,
		"func f(p: int, p: none): int = 1":       api.Twice,
		"func f(p: int, p: a): none = 1":         api.Twice,
		"func f(p: int, p: int, q: a): a = 1":    api.Twice,
		"func f(p: int, q: none, p: a): a = 1":   api.NoType,
		"func f(p: int, q: a, r: none): int = 1": api.Round,
		"func f(p: none, q: a): int = 1":         api.NoType,
		"func f(p: none): a = 1":                 api.NoType,
		"func f(p: a): none = 1":                 api.Round,
		"func f(p: int): none = 1":               api.NoType,
		"func f(p: int): a = 1":                  api.Round,
	} {
		wrong(t, whole(t, "type a = a", "func g(): int = 1", line), nil, 1, code)
	}
}

func TestP7_1TheMostParams(t *testing.T) {
	f := api.Func{Name: "f", Var: "t", Result: own("t"), Body: api.Expr{Kind: api.Number}}
	var want []string
	for i := range api.MaxArgs {
		f.Params = append(f.Params, api.Field{Name: "p" + strconv.Itoa(i), Is: list(9, own("t"))})
		want = append(want, lists(9, "*"))
	}
	m := api.Module{Funcs: []api.Func{f}}
	if e := tree.Check(m); e != api.OK {
		t.Fatal(e)
	}
	right(t, m, nil, 0, takes("f", append(want, "*")...))
	f.Params[api.MaxArgs-1].Name = "p0"
	wrong(t, m, nil, 0, api.Twice)
}

// Bodies are not looked at.
func TestP7_1AnyBody(t *testing.T) {
	m := whole(t, "func f(p: int): int = q", "func g(): text = 1 + none.h(f(1, 2))[0]")
	right(t, m, nil, 0, takes("f", "int", "int"))
	right(t, m, nil, 1, takes("g", "text"))
}

func TestP7_2Face(t *testing.T) {
	l := imports(t)
	faceIs(t, api.Module{}, l, api.Face{})
	faceIs(t, whole(t, "use m", "use none"), l, api.Face{})
	faceIs(t, whole(t, "func f(): int = 1"), l, api.Face{Funcs: []api.Sig{takes("f", "int")}})
	faceIs(t, whole(t, "type a = int"), l, api.Face{Types: known("a", "int")})
	faceIs(t, whole(t, "func g(p: b): a = p", "use m", "type b = [m.a]", "func f<t>(p: t): [t] = p", "type a = text"), l,
		api.Face{Types: known("a", "text", "b", "[int]"), Funcs: []api.Sig{takes("f", "*", "[*]"), takes("g", "[int]", "text")}})
}

func TestP7_2ByTheirNames(t *testing.T) {
	m := whole(t, "func z9(): int = 1", "func z(): text = 1", "func a1(): int = 1", "func a0(p: int): int = 1", "func abcdefgh(): int = 1", "func f(): int = 1", "type z = int", "type f = int")
	faceIs(t, m, nil, api.Face{Types: known("f", "int", "z", "int"), Funcs: []api.Sig{
		takes("a0", "int", "int"), takes("a1", "int"), takes("abcdefgh", "int"), takes("f", "int"), takes("z", "text"), takes("z9", "int"),
	}})
}

func TestP7_2WhatIsWrongInTheirOrder(t *testing.T) {
	m := whole(t,
		"use m",
		"type a = a",
		"func z(p: none): int = 1",
		"func h(p: int): int = 1",
		"func b(p: int, p: text): int = 1",
		"func c(): a = 1",
		"func h(p: text): text = 1",
		"func a(p: m.a): text = 1",
		"func z(): int = 1",
		"func d(p: a, p: a): int = 1",
		"func b(): none = 1",
	)
	// Twice is told of a name whose first one is wrong, too: none of them is in the face.
	faceIs(t, m, imports(t), api.Face{Funcs: []api.Sig{takes("a", "int", "text"), takes("h", "int", "int")}},
		at("z", api.NoType), at("b", api.Twice), at("c", api.Round), at("h", api.Twice), at("z", api.Twice), at("d", api.Round), at("b", api.Twice))
}

// What is wrong with uses and types is not told here; a type that is wrong is not in the face.
func TestP7_2FunctionsAlone(t *testing.T) {
	m := whole(t, "use none", "use m", "use m", "type b = int", "type a = a", "type c = none", "type b = text", "func f(p: b): int = 1")
	faceIs(t, m, imports(t), api.Face{Types: known("b", "int"), Funcs: []api.Sig{takes("f", "int", "int")}})
	faceIs(t, whole(t, "type a = a", "func f(p: int): int = q"), nil, api.Face{Funcs: []api.Sig{takes("f", "int", "int")}})
	faceIs(t, whole(t, "type a = a", "func f(): a = 1"), nil, api.Face{}, at("f", api.Round))
}

func TestP7_2TheMostFunctions(t *testing.T) {
	var lines []string
	var want []api.Sig
	for i := range api.MaxLines {
		name := "f" + string(rune('a'+i))
		lines = append([]string{"func " + name + "(): int = 1"}, lines...)
		want = append(want, takes(name, "int"))
	}
	faceIs(t, whole(t, lines...), nil, api.Face{Funcs: want})
	var twice []api.Diag
	for i := range lines[1:] {
		lines[i+1] = strings.Replace(lines[0], "1", "2", 1)
		twice = append(twice, at("fx", api.Twice))
	}
	faceIs(t, whole(t, lines...), nil, api.Face{Funcs: want[api.MaxLines-1:]}, twice...)
}
