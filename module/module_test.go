package module_test

import (
	"strings"
	"testing"

	"scullery/api"
)

func TestP9_1Uses(t *testing.T) {
	uses(t, "")
	uses(t, "\n \n")
	uses(t, "func f(): int = 1\ntype a = int")
	uses(t, "use a", "a")
	uses(t, "use b\nuse a\nuse c\n", "a", "b", "c")
	uses(t, "func f(): int = 1\n\n  use z\ntype a = int\nuse y", "y", "z")
}

func TestP9_1ByTheNames(t *testing.T) {
	uses(t, "use z9\nuse abcdefgh\nuse a1\nuse z\nuse b\nuse a0\nuse aa\nuse a", "a", "a0", "a1", "aa", "abcdefgh", "b", "z", "z9")
	uses(t, "use uses\nuse ints\nuse funcs", "funcs", "ints", "uses")
}

func TestP9_1EachOnce(t *testing.T) {
	uses(t, "use a\nuse a", "a")
	uses(t, "use b\nuse a\nuse b\n", "a", "b")
	uses(t, "use c\nuse b\nuse c\nuse a\nuse a\nuse b\nuse c", "a", "b", "c")
	uses(t, strings.Repeat("use b\n", api.MaxLines), "b")
	uses(t, strings.Repeat("use b\nuse a\n", api.MaxLines/2), "a", "b")
}

func TestP9_1TheMostUses(t *testing.T) {
	var lines, want []string
	for i := range api.MaxLines {
		name := "m" + string(rune('a'+i))
		lines, want = append([]string{"use " + name}, lines...), append(want, name)
	}
	uses(t, source(lines...), want...)
	uses(t, source(append(lines, "use ma")...))
	uses(t, source(append(lines, "type a = int")...))
	uses(t, source(lines...)+strings.Repeat("\n", api.MaxSource-len(source(lines...))), want...)
	uses(t, source(lines...)+strings.Repeat("\n", api.MaxSource-len(source(lines...))+1))
}

// Whatever else is wrong with the module, it uses what it names; what it only asks for in types and bodies is not used.
func TestP9_1UsesAlone(t *testing.T) {
	uses(t, "use b\nuse b\nuse a\ntype c = c\ntype d = none.x\nfunc f(p: int, p: int): text = e.f(z)\nfunc f(): int = g()", "a", "b")
	uses(t, "type b = a.b\nfunc f(p: a.b): c.d = e.f(p)")
}

// sources that can't be read, though each has a use.
func unreadable() []string {
	deep := "use a\nfunc f(): int = "
	return []string{
		"use a\noh", "oh\nuse a", "use a\nuse", "use a b", "use a\nuse int", "use a\nuse b.c", "use a;", "Use a", "use A", "use abcdefghi", "use a\ttype", "use a\r\nuse b", "use \"a\"", "use a\nuse 1", "use a\xff",
		"use a\ntype b", "use a\ntype b = ", "use a\ntype int = int", "use a\ntype b = []", "use a\ntype b = " + lists(api.MaxNest, "int"), "use a\ntype b = int int",
		"use a\nfunc f(): int", "use a\nfunc f(): int = ", "use a\nfunc f(): int = 1 +", "use a\nfunc f(): int = []", "use a\nfunc f(): int = a.b", "use a\nfunc f<>(): int = 1", "use a\nfunc f(): int = \"", "use a\nfunc f(): int = 07", "use a\nfunc f(): int = 1000000",
		"use a\nfunc f(p: int q: int): int = 1", "use a\nfunc f(p): int = 1", "use a\nfunc f(): int = \"" + strings.Repeat("x", api.MaxQuote+1) + "\"",
		"use a\nfunc f(" + strings.Repeat("p: int, ", api.MaxArgs) + "p: int): int = 1", deep + "f(" + strings.Repeat("1, ", api.MaxArgs) + "1)",
		deep + lists(api.MaxNest, "1"), deep + strings.Repeat("(", 40) + "1" + strings.Repeat(")", 40), deep + strings.Repeat("1 + ", api.MaxNest) + "1", deep + strings.Repeat("1 + ", 100) + "1",
		strings.Repeat("use a\n", api.MaxLines+1), "use a" + strings.Repeat(" ", api.MaxSource),
	}
}

func TestP9_1AndP9_2SourcesThatCantBeRead(t *testing.T) {
	for _, s := range unreadable() {
		none(t, s)
	}
	none(t, "oh")
	none(t, "\x00")
	none(t, strings.Repeat("\n", api.MaxSource+1))
	none(t, strings.Repeat("x", 1<<16))
	// Just not so.
	checks(t, strings.Repeat("\n", api.MaxSource), nil, api.Face{})
	tells(t, "func f(): int = "+lists(api.MaxNest-1, "1"), nil, at("f", api.Mismatch))
}

func TestP9_2TheFace(t *testing.T) {
	checks(t, "", nil, api.Face{})
	checks(t, "\n\n", imports(), api.Face{})
	checks(t, "use m\nuse bare", imports(), api.Face{})
	checks(t, "type a = int", nil, api.Face{Types: known("a", "int")})
	checks(t, "func f(): int = 1", nil, api.Face{Funcs: []api.Sig{takes("f", "int")}})
	checks(t, source(
		"func h(p: d, q: m.b): [m.a] = [m.none()]",
		"type d = [c]",
		"func g<t>(p: t, q: [t]): t = q[0]",
		"use m",
		"type c = m.most",
		"func f(p: int): text = m.fun(g(p, [p]))",
		"type b = text",
	), imports(), api.Face{
		Types: known("b", "text", "c", lists(297, "text"), "d", lists(298, "text")),
		Funcs: []api.Sig{takes("f", "int", "text"), takes("g", "*", "[*]", "*"), takes("h", lists(298, "text"), "[text]", "[int]")},
	})
}

// All that is wrong: of uses, then of types, then of functions, in their order, wherever the lines stand.
func TestP9_2AllThatIsWrong(t *testing.T) {
	checks(t, source(
		"func z(): text = 1",
		"type z = z",
		"use z",
		"func y(): int = none()",
		"type y = none",
		"use m",
		"func x(p: none): int = 1",
		"type x = int",
		"use m",
		"func w(): int = x(1)",
		"type x = int",
		"use gone",
		"func z(): int = 1",
		"type w = [y]",
		"use a",
		"func v(p: int): x = v()",
		"func u(p: x): m.a = p + m.none()",
		"func a(p: int, p: int): int = z",
	), imports(), api.Face{
		Types: known("x", "int"),
		Funcs: []api.Sig{takes("u", "int", "int"), takes("v", "int", "int"), takes("w", "int"), takes("y", "int"), takes("z", "text")},
	},
		at("z", api.Missing), at("m", api.Twice), at("gone", api.Missing), at("a", api.Missing),
		at("z", api.Round), at("y", api.NoType), at("x", api.Twice), at("w", api.NoType),
		at("z", api.Mismatch), at("y", api.NoName), at("x", api.NoType), at("w", api.NoName), at("z", api.Twice), at("v", api.Count), at("a", api.Twice),
	)
}

func TestP9_2WhatIsWrongWithUses(t *testing.T) {
	tells(t, "use m", imports())
	tells(t, "use m\nuse gone\nuse none\nuse bare\nuse m\nuse gone", imports(), at("gone", api.Missing), at("none", api.Missing), at("m", api.Twice), at("gone", api.Twice))
	tells(t, "use m", nil, at("m", api.Missing))
	tells(t, "use m", []api.Import{{Name: "m"}}, at("m", api.Missing))
	tells(t, "use m", []api.Import{{Name: "m", There: true}})
}

func TestP9_2WhatIsWrongWithTypes(t *testing.T) {
	checks(t, "type a = [b]\ntype b = a\ntype c = int\ntype c = text\ntype d = [m.a]\ntype e = [[c]]", imports(), api.Face{Types: known("c", "int", "e", "[[int]]")},
		at("a", api.Round), at("b", api.Round), at("c", api.Twice), at("d", api.NoType))
	checks(t, "use m\ntype d = [m.most]\ntype e = [d]", imports(), api.Face{Types: known("d", lists(298, "text"))}, at("e", api.NoType))
}

// A function that takes and tells something is in the face, whatever its body is.
func TestP9_2WhatIsWrongWithBodies(t *testing.T) {
	for x, code := range map[string]int{"1": 0, "f(1)": 0, `""`: api.Mismatch, "z": api.NoName, "g()": api.NoName, "m.fun(1)": api.NoName, "f()": api.Count, "p[0]": api.Mismatch, `1 + ""`: api.Mismatch} {
		want := []api.Diag{at("f", code)}
		if code == 0 {
			want = nil
		}
		checks(t, "func f(p: int): int = "+x, imports(), api.Face{Funcs: []api.Sig{takes("f", "int", "int")}}, want...)
	}
}

// One thing is wrong with a function, and what it takes and tells is told ahead of its body.
func TestP9_2OneThingOfEachFunction(t *testing.T) {
	tells(t, "func f(p: none, p: int): none = z", nil, at("f", api.NoType))
	tells(t, "func f(p: int, p: none): none = z", nil, at("f", api.Twice))
	tells(t, "func f(): text = 1\nfunc f(): none = z", nil, at("f", api.Mismatch), at("f", api.Twice))
}

// Own functions are those of the face: one with which something is wrong ahead of its body is none of them.
func TestP9_2CallsOfOwn(t *testing.T) {
	checks(t, source(
		"func f(): int = g()",
		"func g(): int = h(\"\")",
		"func h(p: text): int = i(1)",
		"func h(p: int): text = \"\"",
		"func i(p: none): int = 1",
		"func i(p: int): int = 1",
		"func k<t>(p: t): [t] = [p, k(p)[0]]",
	), nil, api.Face{Funcs: []api.Sig{takes("f", "int"), takes("g", "int"), takes("h", "text", "int"), takes("k", "*", "[*]")}},
		at("h", api.NoName), at("h", api.Twice), at("i", api.NoType), at("i", api.Twice))
}

// Imports that are not used make no difference.
func TestP9_2ImportsThatAreNotUsed(t *testing.T) {
	s := "use n\ntype a = m.a\nfunc f(): int = n.fun(\"\")\nfunc g(): text = m.fun(1)"
	for _, l := range [][]api.Import{imports(), imports()[3:]} {
		checks(t, s, l, api.Face{Funcs: []api.Sig{takes("f", "int"), takes("g", "text")}}, at("a", api.NoType), at("g", api.NoName))
	}
}

func TestP9_2TheMostDeclarations(t *testing.T) {
	var lines []string
	var want []api.Diag
	for i := range api.MaxLines {
		name := string(rune('a' + i))
		switch i % 3 {
		case 0:
			lines, want = append(lines, "use "+name), append(want, at(name, api.Missing))
		case 1:
			lines, want = append(lines, "type "+name+" = "+name), append(want, at(name, api.Round))
		case 2:
			lines, want = append(lines, "func "+name+"(): int = z"), append(want, at(name, api.NoName))
		}
	}
	var diags []api.Diag
	for part := range 3 {
		for i := part; i < len(want); i += 3 {
			diags = append(diags, want[i])
		}
	}
	tells(t, source(lines...), nil, diags...)
	none(t, source(append(lines, "use a")...))
	var all []api.Sig
	lines, diags = nil, nil
	for i := range api.MaxLines {
		name := string(rune('a' + i))
		lines = append(lines, "func "+name+"(): int = \"\"")
		all, diags = append(all, takes(name, "int")), append(diags, at(name, api.Mismatch))
	}
	checks(t, source(lines...), nil, api.Face{Funcs: all}, diags...)
}

func TestP9_2ImportsThatMayNotBe(t *testing.T) {
	there := func(f api.Face) []api.Import { return []api.Import{{Name: "m", There: true, Face: f}} }
	refuses(t, make([]api.Import, api.MaxLines+1), api.ErrSize)
	refuses(t, make([]api.Import, 1<<16), api.ErrSize)
	refuses(t, []api.Import{{}}, api.ErrForm)
	refuses(t, []api.Import{{Name: "int"}}, api.ErrForm)
	refuses(t, []api.Import{{Name: "m", Face: faceM()}}, api.ErrForm)
	refuses(t, []api.Import{{Name: "b"}, {Name: "a"}}, api.ErrOrder)
	refuses(t, []api.Import{{Name: "b"}, {Name: "b"}}, api.ErrOrder)
	refuses(t, append(imports(), api.Import{Name: "\xff"}), api.ErrForm)
	refuses(t, there(api.Face{Types: make([]api.Known, api.MaxLines+1)}), api.ErrSize)
	refuses(t, there(api.Face{Types: known("a", "*")}), api.ErrForm)
	refuses(t, there(api.Face{Types: known("a", "none")}), api.ErrForm)
	refuses(t, there(api.Face{Types: known("b", "int", "a", "int")}), api.ErrOrder)
	refuses(t, there(api.Face{Funcs: []api.Sig{takes("f", "[]")}}), api.ErrForm)
	refuses(t, there(api.Face{Funcs: []api.Sig{takes("f", "int"), takes("f", "int")}}), api.ErrOrder)
}

func TestTheExampleOfTheWhole(t *testing.T) {
	of := func(kind string) api.Face { return api.Face{Funcs: []api.Sig{takes("fun", kind)}} }
	a := func(f api.Face) []api.Import { return []api.Import{{Name: "a", There: true, Face: f}} }
	checks(t, "func fun(): int = 1", nil, of("int"))
	checks(t, "func fun(): int = 2", nil, of("int"))
	checks(t, "func fun(): text = \"x\"", nil, of("text"))
	b, shown := "use a\nfunc f(): int = a.fun() + 1", api.Face{Funcs: []api.Sig{takes("f", "int")}}
	uses(t, b, "a")
	checks(t, b, a(of("int")), shown)
	checks(t, b, a(of("text")), shown, at("f", api.Mismatch))
}
