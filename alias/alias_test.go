package alias_test

import (
	"slices"
	"strings"
	"testing"

	"scullery/alias"
	"scullery/api"
	"scullery/face"
	"scullery/tree"
)

func noFace(t *testing.T, m api.Module, l []api.Import, name string) {
	t.Helper()
	if f, ok := alias.From(m, l, name); ok || len(f.Types)+len(f.Funcs) > 0 {
		t.Errorf("From %q of %v: %v, %v", name, m.Uses, f, ok)
	}
}

func hasFace(t *testing.T, m api.Module, l []api.Import, name string, want api.Face) {
	t.Helper()
	if f, ok := alias.From(m, l, name); !ok || !face.Same(f, want) {
		t.Errorf("From %q of %v: %.200v, %v", name, m.Uses, f, ok)
	}
}

func TestP6_1From(t *testing.T) {
	l := imports(t)
	for _, m := range []api.Module{whole(t, "use m"), whole(t, "use gone", "use m", "use none"), whole(t, "use m", "use m"), whole(t, "use bare", "type m = int", "use m")} {
		hasFace(t, m, l, "m", faceM())
	}
	hasFace(t, whole(t, "use m", "use n"), l, "n", l[3].Face)
	// A module that shows nothing is there all the same.
	hasFace(t, whole(t, "use bare"), l, "bare", api.Face{})
}

func TestP6_1FromTellsNone(t *testing.T) {
	l := imports(t)
	all := whole(t, "use bare", "use gone", "use m", "use n", "use none")
	noFace(t, all, l, "gone")
	noFace(t, all, l, "none")
	noFace(t, all, nil, "m")
	noFace(t, all, l[:2], "m")
	for _, s := range []string{"", "a", "mm", "M", "fun", "m ", "\x00", "m.a", strings.Repeat("m", 1<<16)} {
		noFace(t, all, l, s)
	}
	for _, m := range []api.Module{{}, whole(t, "use n"), whole(t, "type m = int", "func m(): int = m.fun(1)"), whole(t, "use n", "type a = m.a")} {
		noFace(t, m, l, "m")
		noFace(t, m, l, "gone")
	}
}

func TestP6_2Uses(t *testing.T) {
	l := imports(t)
	usesAre(t, api.Module{}, l)
	usesAre(t, whole(t, "use m", "use n", "use bare"), l)
	usesAre(t, whole(t, "use gone"), l, at("gone", api.Missing))
	usesAre(t, whole(t, "use none"), l, at("none", api.Missing))
	usesAre(t, whole(t, "use m"), nil, at("m", api.Missing))
	usesAre(t, whole(t, "use m", "use m"), l, at("m", api.Twice))
	usesAre(t, whole(t, "use m", "use m", "use n", "use m"), l, at("m", api.Twice), at("m", api.Twice))
}

// Behind the first one a name is there already, whether or not there is such a module.
func TestP6_2TwiceAheadOfMissing(t *testing.T) {
	usesAre(t, whole(t, "use gone", "use gone"), imports(t), at("gone", api.Missing), at("gone", api.Twice))
	usesAre(t, whole(t, "use z", "use a", "use z", "use a"), nil, at("z", api.Missing), at("a", api.Missing), at("z", api.Twice), at("a", api.Twice))
}

func TestP6_2UsesInTheirOrder(t *testing.T) {
	m := whole(t, "use none", "use m", "use gone", "use m", "use bare", "use gone", "use n", "use a")
	usesAre(t, m, imports(t), at("none", api.Missing), at("gone", api.Missing), at("m", api.Twice), at("gone", api.Twice), at("a", api.Missing))
	// Nothing else of a module is asked: types that are wrong are no uses.
	usesAre(t, whole(t, "type a = gone.a", "type a = a", "use m"), imports(t))
}

func TestP6_3SolveWithoutNames(t *testing.T) {
	for _, v := range []string{"", "t", "a"} {
		for n := range api.MaxNest {
			solved(t, api.Module{}, nil, v, list(n, number()), lists(n, "int"))
			solved(t, api.Module{}, nil, v, list(n, text()), lists(n, "text"))
		}
	}
}

func TestP6_3SolveTheVariable(t *testing.T) {
	m, l := whole(t, "use m", "type a = int", "type b = t", "type c = [a]", "type d = [t]"), imports(t)
	for n := range api.MaxNest {
		solved(t, m, l, "t", list(n, own("t")), lists(n, "*"))
		unsolved(t, m, l, "", list(n, own("t")), api.NoType)
		unsolved(t, m, l, "s", list(n, own("t")), api.NoType)
	}
	// It is ahead of a type of the module with its name, but is unknown within types.
	solved(t, m, l, "a", own("a"), "*")
	solved(t, m, l, "a", own("c"), "[int]")
	solved(t, m, l, "t", own("a"), "int")
	unsolved(t, m, l, "t", own("b"), api.NoType)
	unsolved(t, m, l, "t", list(2, own("d")), api.NoType)
	// A type of another module is no variable, whatever its name, nor is that of the module.
	solved(t, m, l, "a", of("m", "a"), "int")
	solved(t, m, l, "m", of("m", "b"), "[text]")
	unsolved(t, m, l, "t", of("m", "t"), api.NoType)
	// Nor is it met again: it is no type of the module.
	round := whole(t, "type a = b", "type b = a")
	solved(t, round, l, "a", own("a"), "*")
	unsolved(t, round, l, "a", own("b"), api.Round)
	solved(t, whole(t, "type a = t", "type t = [text]"), l, "t", own("a"), "[text]")
}

func TestP6_3SolveOwnTypes(t *testing.T) {
	m, l := whole(t, "type d = [c]", "type a = int", "type c = [[b]]", "type b = text", "type e = a"), imports(t)
	for name, want := range map[string]string{"a": "int", "b": "text", "c": "[[text]]", "d": "[[[text]]]", "e": "int"} {
		solved(t, m, l, "", own(name), want)
		solved(t, m, l, "t", list(3, own(name)), lists(3, want))
	}
	for _, name := range []string{"f", "aa", "m", "fun", "int0"} {
		unsolved(t, m, l, "", own(name), api.NoType)
	}
	// Functions are no types, nor are those of modules that are used.
	unsolved(t, whole(t, "use m", "func f(): int = 1"), l, "", own("f"), api.NoType)
	unsolved(t, whole(t, "use m"), l, "", own("a"), api.NoType)
	unsolved(t, whole(t, "type a = b"), l, "", own("a"), api.NoType)
	unsolved(t, whole(t, "type a = [b]", "type b = [[c]]"), l, "", own("a"), api.NoType)
}

// What stands behind the first type of a name is never asked.
func TestP6_3SolveTheFirstOfAName(t *testing.T) {
	solved(t, whole(t, "type a = int", "type a = text"), nil, "", own("a"), "int")
	solved(t, whole(t, "type a = int", "type a = a"), nil, "", own("a"), "int")
	solved(t, whole(t, "type b = a", "type a = [int]", "type a = b"), nil, "", own("b"), "[int]")
	unsolved(t, whole(t, "type a = a", "type a = int"), nil, "", own("a"), api.Round)
	unsolved(t, whole(t, "type a = none", "type a = int"), nil, "", own("a"), api.NoType)
}

func TestP6_3SolveImported(t *testing.T) {
	m, l := whole(t, "use m", "use n", "use bare", "use gone", "use none", "type a = [m.x]", "type b = n.a"), imports(t)
	for _, k := range faceM().Types {
		solved(t, m, l, "", of("m", k.Name), k.Is)
	}
	solved(t, m, l, "", of("n", "a"), "text")
	solved(t, m, l, "", list(2, of("m", "b")), "[[[text]]]")
	solved(t, m, l, "", own("a"), "[[[int]]]")
	solved(t, m, l, "", own("b"), "text")
	for _, is := range []api.Type{of("m", "c"), of("m", "fun"), of("n", "b"), of("bare", "a"), of("gone", "a"), of("none", "a"), of("a", "a"), of("m", "m")} {
		unsolved(t, m, l, "", is, api.NoType)
		unsolved(t, m, l, "", list(2, is), api.NoType)
	}
	// One that is there, but is not used, has no types.
	for _, other := range []api.Module{{}, whole(t, "use n"), whole(t, "type m = int")} {
		unsolved(t, other, l, "", of("m", "a"), api.NoType)
	}
}

func TestP6_3SolveTooLong(t *testing.T) {
	m, l := whole(t, "use m", "type a = [m.most]", "type b = [a]", "type c = m.long", "type d = [c]", "type e = d"), imports(t)
	solved(t, m, l, "", of("m", "most"), lists(297, "text"))
	solved(t, m, l, "", list(1, of("m", "most")), lists(298, "text"))
	solved(t, m, l, "", own("a"), lists(298, "text"))
	solved(t, m, l, "", own("c"), lists(298, "int"))
	for _, is := range []api.Type{list(2, of("m", "most")), list(1, of("m", "long")), list(1, of("m", "longer")), list(9, of("m", "long")), own("b"), own("d"), own("e"), list(1, own("a")), list(1, own("c"))} {
		unsolved(t, m, l, "", is, api.NoType)
	}
}

func TestP6_3SolveRound(t *testing.T) {
	for _, source := range []string{"type a = a", "type a = [a]", "type a = [[[a]]]", "type a = b\ntype b = a", "type b = [a]\ntype a = [b]", "type a = b\ntype b = c\ntype c = [a]"} {
		m := whole(t, source)
		for _, f := range m.Types {
			unsolved(t, m, nil, "", own(f.Name), api.Round)
			unsolved(t, m, nil, "t", list(9, own(f.Name)), api.Round)
			unsolved(t, m, nil, "", f.Is, api.Round)
		}
	}
	// One that leads to a round is none of it, but is met by it.
	m := whole(t, "type a = [b]", "type b = c", "type c = b", "type d = int")
	unsolved(t, m, nil, "", own("a"), api.Round)
	solved(t, m, nil, "", own("d"), "int")
	// A type of another module with the name is another type.
	solved(t, whole(t, "use m", "type a = [m.a]"), imports(t), "", own("a"), "[int]")
}

// A chain of all types that a module may have has no round, whichever way it goes.
func TestP6_3SolveTheLongestChain(t *testing.T) {
	var m api.Module
	for i := range api.MaxLines {
		m.Types = append(m.Types, api.Field{Name: "n" + string(rune('a'+i)), Is: list(9, own("n"+string(rune('b'+i))))})
	}
	unsolved(t, m, nil, "", own("na"), api.NoType)
	m.Types[api.MaxLines-1].Is = list(9, number())
	if e := tree.Check(m); e != api.OK {
		t.Fatal(e)
	}
	for range 2 {
		for i, f := range m.Types {
			n := strings.IndexByte("abcdefghijklmnopqrstuvwx", f.Name[1])
			solved(t, m, nil, "", own(f.Name), lists(9*(api.MaxLines-n), "int"))
			solved(t, m, nil, "", m.Types[i].Is, lists(9*(api.MaxLines-n), "int"))
		}
		slices.Reverse(m.Types)
	}
	m.Types[api.MaxLines-1].Is = list(9, own("na"))
	for _, f := range m.Types {
		unsolved(t, m, nil, "", own(f.Name), api.Round)
	}
}

func TestP6_4Types(t *testing.T) {
	l := imports(t)
	typesAre(t, api.Module{}, l, nil, nil)
	typesAre(t, whole(t, "use none", "func f(p: none): int = 1"), l, nil, nil)
	typesAre(t, whole(t, "type a = int"), l, known("a", "int"), nil)
	typesAre(t, whole(t, "use m", "type c = [a]", "type b = [[m.b]]", "type aa = text", "type a = aa"), l, known("a", "text", "aa", "text", "b", "[[[text]]]", "c", "[text]"), nil)
	typesAre(t, whole(t, "type z9 = int", "type z = int", "type a1 = int", "type a0 = int", "type abcdefgh = int"), l, known("a0", "int", "a1", "int", "abcdefgh", "int", "z", "int", "z9", "int"), nil)
}

func TestP6_4TypesWithWrongOnes(t *testing.T) {
	l := imports(t)
	m := whole(t, "use m", "use gone", "type h = [a]", "type z = t", "type b = [b]", "type a = int", "type g = [m.long]", "type c = gone.a", "type a = text", "type d = b", "type e = m.a", "type f = m.c")
	typesAre(t, m, l, known("a", "int", "e", "int", "h", "[int]"),
		diags(at("z", api.NoType), at("b", api.Round), at("g", api.NoType), at("c", api.NoType), at("a", api.Twice), at("d", api.Round), at("f", api.NoType)))
	// A function's variable is no type of the module.
	typesAre(t, whole(t, "func f<t>(p: t): t = p", "type a = t"), l, nil, diags(at("a", api.NoType)))
}

// Behind the first one a name is there already, whatever is wrong with either.
func TestP6_4TwiceAheadOfOthers(t *testing.T) {
	typesAre(t, whole(t, "type a = a", "type a = a"), nil, nil, diags(at("a", api.Round), at("a", api.Twice)))
	typesAre(t, whole(t, "type a = none", "type a = int", "type a = b"), nil, nil, diags(at("a", api.NoType), at("a", api.Twice), at("a", api.Twice)))
	typesAre(t, whole(t, "type b = a", "type a = int", "type b = int", "type a = b"), nil, known("a", "int", "b", "int"), diags(at("b", api.Twice), at("a", api.Twice)))
}

func TestP6_4TypesMakeAFace(t *testing.T) {
	d, l := draw(64), imports(t)
	for range 5000 {
		m := d.module()
		k, _ := alias.Types(m, l)
		if e := face.Check(api.Face{Types: k}); e != api.OK {
			t.Errorf("Types of %v: %v: %v", m, k, e)
		}
	}
}
