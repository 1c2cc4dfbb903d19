package body_test

import (
	"math"
	"strconv"
	"strings"
	"testing"

	"scullery/api"
	"scullery/body"
)

func TestP8_1NumbersAndQuotes(t *testing.T) {
	is(t, "0", "int")
	is(t, "999999", "int")
	is(t, `""`, "text")
	is(t, `"int"`, "text")
}

func TestP8_1Params(t *testing.T) {
	for name, kind := range map[string]string{"i": "int", "s": "text", "l": "[int]", "k": "[[int]]", "x": "[text]", "v": "t", "w": "[t]"} {
		is(t, name, kind)
	}
	// A type, a function, a variable, a module, a param of another function are no params.
	for _, name := range []string{"z", "a", "fun", "t", "m", "f", "p"} {
		wrong(t, name, api.NoName)
	}
	m := whole(t, "func f(): int = p", "func g(p: int, q: text): text = q", "func h(q: int, p: text): text = p")
	one(t, m, nil, 0, api.NoName)
	one(t, m, nil, 1, 0)
	one(t, m, nil, 2, 0)
}

func TestP8_1TheLastOfTheMostParams(t *testing.T) {
	m := whole(t, "func f(p0: text, p1: text, p2: text, p3: text, p4: text, p5: text, p6: text, p7: int): int = p7", "func g(p: int): int = f(\"\", \"\", \"\", \"\", \"\", \"\", \"\", p)", "func h(p: int): int = f(\"\", \"\", \"\", \"\", \"\", \"\", p, p)")
	one(t, m, nil, 0, 0)
	one(t, m, nil, 1, 0)
	one(t, m, nil, 2, api.Mismatch)
}

func TestP8_1CallsOfOwn(t *testing.T) {
	is(t, "none()", "int")
	is(t, "fun(1)", "int")
	is(t, "fun(fun(none()))", "int")
	is(t, `two("x", l)`, "text")
	is(t, `two(two(s, [1]), [none()])`, "text")
	// A function of another module, a param, a type, a module and a variable are no own functions, nor is one with which something is wrong.
	for _, x := range []string{"wrap(1)", "i()", "b()", "m()", "t()", "bad(1)", "gone()"} {
		wrong(t, x, api.NoName)
	}
	// A param and a function may have one name.
	m := whole(t, "func f(f: int): text = \"\"", "func g(f: int): text = f(f)", "func h(f: int): int = f")
	one(t, m, nil, 1, 0)
	one(t, m, nil, 2, 0)
}

// A function may tell itself, if it is the result's kind.
func TestP8_1CallsOfItself(t *testing.T) {
	m := whole(t, "func f(p: int): text = f(p + 1)", "func g(p: int): text = g(\"\")", "func h(): h = h()", "func i(): int = h()", "func k<t>(p: t): t = k(p)", "func n<t>(p: t): int = n(n(p))")
	one(t, m, nil, 0, 0)
	one(t, m, nil, 1, api.Mismatch)
	one(t, m, nil, 2, api.NoType)
	one(t, m, nil, 3, api.NoName)
	one(t, m, nil, 4, 0)
	one(t, m, nil, 5, 0)
}

func TestP8_1CallsOfOthers(t *testing.T) {
	is(t, "m.none()", "int")
	is(t, "m.fun(1)", "text")
	is(t, `m.two(2, m.fun(1))`, "int")
	is(t, `m.two(fun(2), s)`, "int")
	// Not in the face, a type, a module that shows nothing, one that is not there, not used, or not told of, and itself.
	for _, x := range []string{"m.z()", "m.f()", "m.a()", "bare.fun(1)", "gone.fun(1)", `n.fun("")`, "none.none()", "f.none()", "a.none()"} {
		wrong(t, x, api.NoName)
	}
	m := whole(t, "use m", "func f(): int = m.none()", "func m(): text = \"\"", "func g(): text = m()")
	one(t, m, imports(t), 0, 0)
	one(t, m, imports(t), 2, 0)
	one(t, m, nil, 0, api.NoName)
	one(t, m, []api.Import{{Name: "m"}}, 0, api.NoName)
	one(t, m, []api.Import{{Name: "m", There: true}}, 0, api.NoName)
	// A use that is wrong, as it stands ahead already, is a use.
	one(t, whole(t, "use m", "use m", "func f(): int = m.none()"), imports(t), 0, 0)
}

// Own is what is handed in, whatever functions stand in the module.
func TestP8_1OwnIsAnyFace(t *testing.T) {
	m := whole(t, "use m", "func f(): text = g(1)", "func g(p: int): int = 1", "func h(): int = z()", "func i(): text = m.g(1)")
	f := api.Face{Types: known("z", "int"), Funcs: []api.Sig{takes("g", "int", "text")}}
	l := []api.Import{{Name: "m", There: true, Face: f}}
	with(t, m, nil, f, 0, 0)
	with(t, m, nil, f, 1, 0)
	with(t, m, nil, f, 2, api.NoName)
	with(t, m, nil, f, 3, api.NoName)
	with(t, m, l, api.Face{}, 3, 0)
	with(t, m, l, api.Face{}, 0, api.NoName)
	with(t, m, nil, api.Face{}, 0, api.NoName)
	f.Funcs[0] = takes("g", "int", "int")
	with(t, m, nil, f, 0, api.Mismatch)
	f.Funcs[0] = takes("g", "text")
	with(t, m, nil, f, 0, api.Count)
}

func TestP8_1Count(t *testing.T) {
	for _, x := range []string{"none(1)", "fun()", "fun(1, 2)", `two("")`, `two("", l, 1)`, "id()", "both(1)", "m.none(1)", "m.fun()", "m.two(1)", "any(1)", "fun(1, 1, 1, 1, 1, 1, 1, 1)", "f(i, i, s, l, k, x, v)"} {
		wrong(t, x, api.Count)
	}
}

func TestP8_1ArgsThatDoNotFit(t *testing.T) {
	for _, x := range []string{`fun("")`, "fun(l)", "fun(v)", "two(1, l)", `two("", 1)`, `two("", k)`, `two("", ["x"])`, "m.fun(s)", "m.two(s, 1)", "m.two(1, 2)", `fun(two("", l))`, "fun(m.fun(1))"} {
		wrong(t, x, api.Mismatch)
	}
}

// A variable of the function that is called stands for what it is handed, be it the variable of the one that calls.
func TestP8_1CallsWithAVariable(t *testing.T) {
	is(t, "id(1)", "int")
	is(t, `id("")`, "text")
	is(t, "id(k)", "[[int]]")
	is(t, "id(v)", "t")
	is(t, "id(w)", "[t]")
	is(t, "id(id(x))", "[text]")
	is(t, "both(1, i)", "int")
	is(t, "both(v, v)", "t")
	is(t, "both(w, [v])", "[t]")
	is(t, "each(l, 1)", "[[int]]")
	is(t, "each(w, v)", "[[t]]")
	is(t, "m.wrap(s)", "[[text]]")
	is(t, "m.each([v], v)", "[[t]]")
	is(t, "m.wrap(m.wrap(1))[0][0]", "[[int]]")
	for _, x := range []string{`both(1, "")`, "both(v, 1)", "both(1, v)", "both(v, w)", "both(w, v)", "both(l, i)", `each(l, "")`, "each(1, 1)", "each(l, l)", "each(v, v)", "each(w, w)", "each(x, 1)"} {
		wrong(t, x, api.Mismatch)
	}
	// What it tells has a variable that stands for nothing.
	wrong(t, "any()", api.Mismatch)
	wrong(t, "id(any())", api.Mismatch)
	wrong(t, "m.any()", api.Mismatch)
}

func TestP8_1Sums(t *testing.T) {
	is(t, "1 + 2", "int")
	is(t, "i + fun(j) + l[0]", "int")
	is(t, `"a" + s`, "text")
	is(t, `"a" + ("b" + m.fun(1))`, "text")
	for _, x := range []string{`1 + ""`, `"" + 1`, "l + l", "v + v", "w + w", "l + 1", "1 + l", "v + 1", "s + v", `1 + 2 + ""`, `1 + (2 + "")`, "x + x", "l[0] + x[0]"} {
		wrong(t, x, api.Mismatch)
	}
}

func TestP8_1Items(t *testing.T) {
	is(t, "[1]", "[int]")
	is(t, `["a", s, x[0]]`, "[text]")
	is(t, "[1, 2, 3, 4, 5, 6, 7, 8]", "[int]")
	is(t, "[[1], l]", "[[int]]")
	is(t, "[v, v]", "[t]")
	is(t, "[w, [v]]", "[[t]]")
	is(t, "[x]", "[[text]]")
	for _, x := range []string{`[1, ""]`, `["", 1]`, "[1, 2, 3, 4, 5, 6, 7, s]", "[s, 2, 3, 4]", "[1, s, 3]", "[l, 1]", "[1, l]", "[l, k]", "[v, 1]", "[v, w]", `[[1], [""]]`, `[[1, ""]]`} {
		wrong(t, x, api.Mismatch)
	}
}

// The list of a kind may be of MaxKind bytes, and of no more.
func TestP8_1ItemsThatAreTooLong(t *testing.T) {
	l := imports(t)
	m := whole(t, "use m", "func f(p: m.most): [m.most] = [p]", "func g(p: m.most): int = [[p]]", "func h(p: m.long): m.long = p", "func i(p: m.long): int = [p, p]", "func k(p: m.long): int = [[[p]]][0][0][0]")
	for i, code := range []int{0, api.Mismatch, 0, api.Mismatch, api.Mismatch} {
		one(t, m, l, i, code)
	}
	// So may what a function tells, with its variable.
	m = whole(t, "use m", "func f(p: m.most): [m.most] = m.id([p])", "func g(p: m.most): int = m.wrap(p)", "func h(p: m.long): int = m.wrap(p)", "func i(p: m.long): m.long = m.wrap(p[0][0])", "func k(p: m.long): int = fun(m.wrap(p))", "func fun<t>(p: t): int = 1")
	for i, code := range []int{0, api.Mismatch, api.Mismatch, 0, api.Mismatch} {
		one(t, m, l, i, code)
	}
	one(t, whole(t, "use m", "func f(p: m.long): m.most = p"), l, 0, api.Mismatch)
	// That is told ahead of what is wrong behind it.
	m = whole(t, "use m", "func f(p: m.long): int = [p] + z", "func g(p: m.long): int = m.wrap(p) + z", "func h(p: m.long): int = m.both([p], z)", "func i(p: m.long): int = [p[0]] + z")
	for i, code := range []int{api.Mismatch, api.Mismatch, api.Mismatch, api.NoName} {
		one(t, m, l, i, code)
	}
}

func TestP8_1Places(t *testing.T) {
	is(t, "l[0]", "int")
	is(t, "l[i + 1]", "int")
	is(t, "k[0]", "[int]")
	is(t, "k[0][l[0]]", "int")
	is(t, "x[none()]", "text")
	is(t, "w[0]", "t")
	is(t, `["a"][0]`, "text")
	is(t, "each(w, v)[0]", "[t]")
	for _, x := range []string{"i[0]", "s[0]", `"text"[0]`, "v[0]", "l[0][0]", `l[""]`, "l[l]", "l[v]", "w[0][0]", "1[1]", `1[""]`, "l[s]", "fun(1)[0]"} {
		wrong(t, x, api.Mismatch)
	}
}

// Of a Call what is wrong with its name is told, then with the count, then with its args, then whether they fit.
func TestP8_1WhatIsWrongFirstInCalls(t *testing.T) {
	for x, code := range map[string]int{
		"z(none(1))":         api.NoName,
		`z(1 + "")`:          api.NoName,
		"m.z(none(1), 1[1])": api.NoName,
		"fun(z, z)":          api.Count,
		"none(z)":            api.Count,
		`two(1 + "")`:        api.Count,
		"m.fun(z, 1[1])":     api.Count,
		"two(1, z)":          api.NoName,
		"two(1, fun())":      api.Count,
		"two(z, fun())":      api.NoName,
		"two(fun(), z)":      api.Count,
		"two(1[1], z)":       api.Mismatch,
		`two(fun(""), z)`:    api.Mismatch,
		"two(any(), fun())":  api.Mismatch,
		"two(z, 1[1])":       api.NoName,
		"both(1, fun())":     api.Count,
		`both(1[1], fun())`:  api.Mismatch,
		"id(z)":              api.NoName,
		"m.two(s, z)":        api.NoName,
		"m.two(m.none(1),z)": api.Count,
		"id(none(z))":        api.Count,
	} {
		wrong(t, x, code)
	}
}

// Of all others what is wrong with their args is told ahead, one by one.
func TestP8_1WhatIsWrongFirstInOthers(t *testing.T) {
	for x, code := range map[string]int{
		"1 + z":             api.NoName,
		`"" + 1 + z`:        api.Mismatch,
		"l + fun()":         api.Count,
		"z + fun()":         api.NoName,
		"fun() + z":         api.Count,
		"1[1] + z":          api.Mismatch,
		`fun("") + z`:       api.Mismatch,
		"[any(), fun()]":    api.Mismatch,
		`[1, "", z]`:        api.NoName,
		`[1, "", fun()]`:    api.Count,
		"[z, fun()]":        api.NoName,
		"[fun(), z]":        api.Count,
		`[[1, ""], z]`:      api.Mismatch,
		`[[1, ""], fun()]`:  api.Mismatch,
		"1[z]":              api.NoName,
		"1[fun()]":          api.Count,
		"z[fun()]":          api.NoName,
		"fun()[z]":          api.Count,
		"1[1][z]":           api.Mismatch,
		`l[""][fun()]`:      api.Mismatch,
		`l[1 + "" + fun()]`: api.Mismatch,
	} {
		wrong(t, x, code)
	}
}

// Up to MaxNest, one within another.
func TestP8_1Deep(t *testing.T) {
	within := func(n int, x, front, back string) string {
		return strings.Repeat(front, n) + x + strings.Repeat(back, n)
	}
	is(t, within(9, "1", "fun(", ")"), "int")
	is(t, within(9, "v", "m.id(", ")"), "t")
	is(t, within(9, "1", "(1 + ", ")"), "int")
	is(t, within(4, within(4, "s", "[", "]"), "", "[0]"), "text")
	wrong(t, within(9, "z", "id(", ")"), api.NoName)
	wrong(t, within(8, "fun()", "[", "]"), api.Count)
	wrong(t, within(8, `1 + ""`, "(1 + ", ")"), api.Mismatch)
	wrong(t, within(9, "w", "", "[0]"), api.Mismatch)
	f := api.Func{Name: "f", Var: "t", Params: []api.Field{{Name: "p", Is: own("t")}}, Result: list(9, own("t")), Body: param("p")}
	for range 9 {
		f.Body = made(api.Items, f.Body, f.Body)
	}
	one(t, api.Module{Funcs: []api.Func{f}}, nil, 0, 0)
	f.Result = list(8, own("t"))
	one(t, api.Module{Funcs: []api.Func{f}}, nil, 0, api.Mismatch)
}

// What One of sign tells is told ahead of the body.
func TestP8_2WhatIsWrongAhead(t *testing.T) {
	head := []string{"use m", "type a = a", "func g(): int = 1"}
	for params, code := range map[string]int{
		"func g(): int":                  api.Twice,
		"func f(p: int, p: int): int":    api.Twice,
		"func f(p: none): int":           api.NoType,
		"func f(p: int): none":           api.NoType,
		"func f(p: t): int":              api.NoType,
		"func f(p: gone.a): int":         api.NoType,
		"func f(p: [m.long]): int":       api.NoType,
		"func f(p: a): int":              api.Round,
		"func f(): [a]":                  api.Round,
		"func f(p: int, p: none): none":  api.Twice,
		"func f(p: none, p: int): int":   api.NoType,
		"func f(p: a): none":             api.Round,
		"func g(p: none, p: int): int":   api.Twice,
		"func f<t>(p: t, q: [none]): t":  api.NoType,
		"func f<t>(p: t, q: int): [t.t]": api.NoType,
	} {
		for _, x := range []string{"1", "z", "g(1)", `1 + ""`} {
			one(t, whole(t, append(head[:len(head):len(head)], params+" = "+x)...), imports(t), 1, code)
		}
	}
}

func TestP8_2TheResult(t *testing.T) {
	m := whole(t,
		"type a = [b]",
		"type b = int",
		"func f(): b = 1",
		"func g(p: a): [int] = p",
		"func h(p: [b]): a = p",
		"func i<t>(p: t): t = p",
		"func j<t>(p: t): t = 1",
		"func k<t>(p: t): int = p",
		"func n<b>(p: b): b = p",
		"func o<b>(p: b): b = 1",
		"func q<t>(p: [t]): [t] = [p[0]]",
		"func r(): [int] = 1",
		"func s(): int = [1]",
	)
	for i, code := range []int{0, 0, 0, 0, api.Mismatch, api.Mismatch, 0, api.Mismatch, 0, api.Mismatch, api.Mismatch} {
		one(t, m, nil, i, code)
	}
	// What is wrong with the body is told ahead of that it is not the result.
	for x, code := range map[string]int{"z": api.NoName, "f(1)": api.Count, "g()": api.NoName} {
		one(t, whole(t, "func f(): text = "+x), nil, 0, code)
	}
}

// What is wrong with other declarations does not matter.
func TestP8_2OneFunctionAlone(t *testing.T) {
	m := whole(t, "use none", "use m", "use m", "type a = a", "type b = none", "func f(): none = z", "func g(p: int): int = h(p)", "func h(p: int): int = z", "func h(): text = 1", "func i(): int = 1 + \"\"")
	for i, code := range []int{api.NoType, 0, api.NoName, api.Twice, api.Mismatch} {
		one(t, m, imports(t), i, code)
	}
}

func TestP8_2TheLastOfTheMostFunctions(t *testing.T) {
	var lines []string
	for i := range api.MaxLines - 1 {
		name := "f" + strconv.Itoa(i)
		lines = append(lines, "func "+name+"(): int = last() + "+name+"()")
	}
	m := whole(t, append(lines, "func last(): int = f0() + f22()")...)
	for i := range m.Funcs {
		one(t, m, nil, i, 0)
	}
	m = whole(t, append(lines, "func last(): text = f0() + f22()")...)
	for i := range m.Funcs {
		one(t, m, nil, i, api.Mismatch)
	}
}

func TestTheExampleOfTheWhole(t *testing.T) {
	m := whole(t, "use a", "func f(): int = a.fun() + 1")
	one(t, m, []api.Import{{Name: "a", There: true, Face: api.Face{Funcs: []api.Sig{takes("fun", "int")}}}}, 0, 0)
	one(t, m, []api.Import{{Name: "a", There: true, Face: api.Face{Funcs: []api.Sig{takes("fun", "text")}}}}, 0, api.Mismatch)
	one(t, api.Module{Funcs: []api.Func{{Name: "f", Result: api.Type{Kind: api.Int}, Body: number(7)}}}, nil, 0, 0)
}

// wrongOnes: expressions that may not be.
func wrongOnes() []api.Expr {
	l := []api.Expr{{}, {Kind: -1}, {Kind: math.MaxInt}, {Kind: math.MinInt, Args: []api.Expr{number(1)}}, number(-1), quoted("\""), param(""), param("\xff"), call("", ""), call("", "f"), call("m", ""), call("\xff", "f", number(1)), call("m", "fun"), call("m", "odd", number(1), number(1))}
	for kind := api.Sum; kind <= api.At+1; kind++ {
		var args []api.Expr
		for range 12 {
			l = append(l, made(kind, args...))
			args = append(args, number(1))
		}
		l = append(l, made(kind, api.Expr{}, number(1)), made(kind, made(kind), made(kind)))
	}
	deep := made(api.Items, number(1))
	for range 5000 {
		deep = made(api.Items, deep)
	}
	return append(l, deep, made(api.Sum, deep, deep), call("", "f", deep), call("m", "id", deep))
}

// Of modules and faces that may not be, and of places where no function is, nothing is promised, but the call ends.
func TestWrongOnesEnd(t *testing.T) {
	m := api.Module{Uses: []string{"", "m", "\xff"}}
	for i, x := range wrongOnes() {
		m.Funcs = append(m.Funcs, api.Func{Name: "f" + strconv.Itoa(i), Params: []api.Field{{Name: "p"}, {}}, Body: x}, api.Func{Name: "g" + strconv.Itoa(i), Var: "*", Result: own("*"), Body: x}, api.Func{Name: "h" + strconv.Itoa(i), Result: list(1, api.Type{Kind: api.Int}), Body: x})
	}
	many := make([]string, 5000)
	f := api.Face{Types: known("a", "x", "", ""), Funcs: []api.Sig{{}, takes("f", many...), takes("fun", "[]"), takes("id", "*", "**"), takes("odd", "", "[", "]"), {Name: "\xff", Params: many}}}
	l := []api.Import{{Name: "m", There: true, Face: f}, {Name: "m"}, {}, {There: true}, {Name: "\xff", There: true, Face: f}}
	for i := range m.Funcs {
		body.One(m, l, f, i)
		body.One(m, nil, api.Face{}, i)
	}
	for _, place := range []int{-1, math.MinInt, len(m.Funcs), math.MaxInt} {
		body.One(m, l, f, place)
		body.One(api.Module{}, nil, api.Face{}, place)
	}
}
