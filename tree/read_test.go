package tree_test

import (
	"reflect"
	"strings"
	"testing"

	"scullery/api"
	"scullery/tree"
)

// deepest: so many types or expressions may stand within one another in a text.
const deepest = 4 * api.MaxNest

// within brackets, so many times.
func within(n int, open, s, end string) string {
	return strings.Repeat(open, n) + s + strings.Repeat(end, n)
}

func TestP2_6ReadLines(t *testing.T) {
	for _, s := range []string{"", "\n", "\n\n\n", "   ", " \n  \n ", strings.Repeat("\n", api.MaxSource)} {
		reads(t, s, api.Module{})
	}
	reads(t, "use a", uses("a"))
	reads(t, "use a\n", uses("a"))
	reads(t, "\n\n  use   a  \n\n use b\n", uses("a", "b"))
	reads(t, "use a\nuse a", uses("a", "a"))
	reads(t, "func f(): int = 1\nuse b\ntype t = int\nuse a\ntype s = text\nfunc f(): int = 2\n", api.Module{
		Uses:  []string{"b", "a"},
		Types: []api.Field{field("t", whole()), field("s", text())},
		Funcs: []api.Func{fun(num(1)), fun(num(2))},
	})
}

func TestP2_6ReadTakesAnyBlanks(t *testing.T) {
	f := api.Func{Name: "f", Var: "t", Params: []api.Field{field("p", list(named("t"))), field("q", namedOf("m", "a"))}, Result: whole(),
		Body: sum(at(callOf("m", "g", num(1), quoted("x")), num(0)), param("p"))}
	reads(t, `func f<t>(p:[t],q:m.a):int=m.g(1,"x")[0]+p`, funcs(f))
	reads(t, `  func f < t > ( p : [ t ] , q : m . a ) : int = m . g ( 1 , "x" ) [ 0 ] + p  `, funcs(f))
}

func TestP2_6ReadRefusesOtherLines(t *testing.T) {
	for _, s := range []string{
		"a", "1", "=", `"use"`, `"use" a`, "Use a", "uses a", "usea",
		"use", "use 1", `use "a"`, "use int", "use use", "use type", "use a b", "use a, b", "use a.b", "use a =", "use (a)", "use use a",
		"type", "type a", "type a =", "type = int", "type a int", "type a : int", "type int = int", "type func = int", "type a = int int", "type a = int,", "type a.b = int", "type 1 = int", "type a == int",
		"func", "func f", "func f(", "func f()", "func f():", "func f(): int", "func f(): int =", "func (): int = 1", "func int(): int = 1", "func 1(): int = 1", "func m.f(): int = 1",
		"func f() int = 1", "func f(): = 1", "func f() = 1", "func f: int = 1", "func f): int = 1", "func f(: int = 1", "func f(): int : 1", "func f(): int 1", "func f(): int = 1 1", "func f(): int = 1,", "func f(): int = 1)", "func f(): int = 1 = 1",
		"func f<>(): int = 1", "func f<t(): int = 1", "func f t>(): int = 1", "func f<t>>(): int = 1", "func f<int>(): int = 1", "func f<t, s>(): int = 1", "func f<1>(): int = 1", "func f(<t>): int = 1", "func f()<t>: int = 1",
		"func f(p): int = 1", "func f(p:): int = 1", "func f(p int): int = 1", "func f(: int): int = 1", "func f(p = int): int = 1", "func f(p: int,): int = 1", "func f(, p: int): int = 1", "func f(p: int q: int): int = 1", "func f(p: int, , q: int): int = 1", "func f(int: int): int = 1", "func f(p.q: int): int = 1", "func f(p: int]: int = 1",
		"?", "use a\t", "use a\r\n", "use A", "use abcdefghi", "// use a",
	} {
		refuses(t, s, api.ErrForm)
		refuses(t, "use m\n"+s+"\nuse n\n", api.ErrForm)
	}
}

func TestP2_6ReadRefusesOtherTypes(t *testing.T) {
	for _, s := range []string{"", "1", `"int"`, "[]", "[", "]", "[int", "int]", "[int]]", "[[int]", "[int, int]", "[int int]", "(int)", "use", "type", "func", "a.", ".a", "a.int", "int.a", "a.b.c", "a b", "a.1", "m.[a]", "[a].b", "<t>", "a = b", "int + int", "A", `"["int]`} {
		refusesType(t, s, api.ErrForm)
	}
}

func TestP2_6ReadRefusesOtherExpressions(t *testing.T) {
	for _, s := range []string{"", "()", "[]", "(", ")", "[", "]", "(1", "1)", "[1", "1]", "[1,]", "[,1]", "[1 2]", "[1)", "(1]", "(1, 2)", "1, 2", "+", "+ 1", "1 +", "1 + + 1", "(1 +)", "(+ 1)",
		"p[]", "p[0", "p[0)", "p[0, 1]", "p[0][]", "p]", "p[0]]", "p 0", "1 p", `"a" "b"`, "[1] 2", "(p) q",
		"f(", "f(1", "f(1,)", "f(,1)", "f(,)", "f(1 2)", "f(1]", "f[1)", "f()()", "f(1)(2)", "(f)()", "(f)(1)", "1()", `"f"()`, "[f]()", "p[0]()",
		"m.f", "m.f[0]", "m.", ".f", "m.f.g()", "m..f()", "m.1()", "1.f()", "m.(f)", "(m).f()", "f().g()",
		"int", "text", "use", "type", "func", "int()", "text(1)", "m.int()", "int.f()", "func.f()",
		"p = 1", "p: int", "1 < 2", "1 > 2", "1.5", "07", "1000000", `"a`, `"\"`, "a - b", "f (p: int)", `1 "+" 2`, `p"["0]`} {
		refusesBody(t, s, api.ErrForm)
	}
}

func TestP2_6ReadSums(t *testing.T) {
	a, b, c, d := param("a"), param("b"), param("c"), param("d")
	readsBody(t, "a + b", sum(a, b))
	readsBody(t, "a + b + c", sum(sum(a, b), c))
	readsBody(t, "a + b + c + d", sum(sum(sum(a, b), c), d))
	readsBody(t, "a + (b + c)", sum(a, sum(b, c)))
	readsBody(t, "(a + b) + (c + d)", sum(sum(a, b), sum(c, d)))
	readsBody(t, "a + (b + c) + d", sum(sum(a, sum(b, c)), d))
	readsBody(t, "f(a + b, c) + [a + b + c, d]", sum(call("f", sum(a, b), c), items(sum(sum(a, b), c), d)))
	readsBody(t, "a + b[c + d] + a", sum(sum(a, at(b, sum(c, d))), a))
}

func TestP2_6ReadPlacesAndBrackets(t *testing.T) {
	p := param("p")
	readsBody(t, "(p)", p)
	readsBody(t, "((((7))))", num(7))
	readsBody(t, `("a")[0]`, at(quoted("a"), num(0)))
	readsBody(t, "p[0][1][2]", at(at(at(p, num(0)), num(1)), num(2)))
	readsBody(t, "p[(0)]", at(p, num(0)))
	readsBody(t, "[p][0]", at(items(p), num(0)))
	readsBody(t, "[[p]]", items(items(p)))
	readsBody(t, "[p[0]][p]", at(items(at(p, num(0))), p))
	readsBody(t, "f()[0]", at(call("f"), num(0)))
	readsBody(t, "(p + p)[0] + p", sum(at(sum(p, p), num(0)), p))
	readsBody(t, "7[0]", at(num(7), num(0)))
	readsBody(t, `"["`, quoted("["))
	readsBody(t, `f("(", ")")`, call("f", quoted("("), quoted(")")))
}

func TestP2_6ReadSize(t *testing.T) {
	s := "use a\n"
	reads(t, s+strings.Repeat(" ", api.MaxSource-len(s)), uses("a"))
	refuses(t, s+strings.Repeat(" ", api.MaxSource-len(s)+1), api.ErrSize)
	refuses(t, strings.Repeat("?", api.MaxSource+1), api.ErrSize)
	refuses(t, strings.Repeat("?\n", 1<<20), api.ErrSize)
}

func TestP2_6ReadNestingOfTypes(t *testing.T) {
	for n := range 2 * deepest {
		s := within(n, "[", "int", "]")
		switch {
		case n < api.MaxNest:
			readsType(t, s, lists(n+1, whole()))
		default:
			refusesType(t, s, api.ErrSize)
		}
		// Beyond the bound what follows is not looked at any more, be it wrong or not.
		want := api.ErrForm
		if n >= deepest {
			want = api.ErrSize
		}
		refusesType(t, strings.Repeat("[", n)+"1", want)
		refusesType(t, s+" 1", want)
	}
}

func TestP2_6ReadNestingOfExpressions(t *testing.T) {
	for n := range 2 * deepest {
		s := within(n, "(", "7", ")")
		if n < deepest {
			readsBody(t, s, num(7))
			readsBody(t, s+" + "+s, sum(num(7), num(7)))
		} else {
			refusesBody(t, s, api.ErrSize)
			refusesBody(t, "1 + "+s, api.ErrSize)
		}
		want := api.ErrForm
		if n >= deepest {
			want = api.ErrSize
		}
		refusesBody(t, s+" 1", want)
		refusesBody(t, within(n, "[", "7", "]")+" 1", want)
		refusesBody(t, within(n, "p[", "7", "]")+" 1", want)
		refusesBody(t, within(n, "f(", "7", ")")+" 1", want)
		refusesBody(t, strings.Repeat("(", n)+"+", want)
	}
}

// Operands of plus, places, args and types stand beside one another.
func TestP2_6ReadCountsWhatStandsWithin(t *testing.T) {
	s := within(deepest-1, "(", "7", ")")
	readsBody(t, strings.Repeat("(", deepest-2)+"p[7]"+strings.Repeat(")", deepest-2), at(param("p"), num(7)))
	readsBody(t, strings.Repeat("(", deepest-1)+"f()"+strings.Repeat(")", deepest-1), call("f"))
	readsBody(t, strings.Repeat("(", deepest-1)+"7 + 8 + 9"+strings.Repeat(")", deepest-1), sum(sum(num(7), num(8)), num(9)))
	inner := s[1 : len(s)-1]
	readsBody(t, s+"["+inner+"]", at(num(7), num(7)))
	readsBody(t, "f("+inner+", 8)", call("f", num(7), num(8)))
	readsBody(t, "f(8, "+inner+")", call("f", num(8), num(7)))
	readsBody(t, "["+inner+", 8]", items(num(7), num(8)))
	refusesBody(t, "p["+s+"]", api.ErrSize)
	refusesBody(t, "f("+s+")", api.ErrSize)
	refusesBody(t, "f(1, "+s+")", api.ErrSize)
	refusesBody(t, "p[0]["+s+"]", api.ErrSize)
	refusesBody(t, "["+s+"]", api.ErrSize)
	refusesBody(t, "("+s+")", api.ErrSize)
	reads(t, "func f(p: "+within(api.MaxNest-1, "[", "int", "]")+"): int = "+s,
		funcs(api.Func{Name: "f", Params: []api.Field{field("p", lists(api.MaxNest, whole()))}, Result: whole(), Body: num(7)}))
	many := strings.Repeat("7 + ", deepest+8) + "7"
	refusesBody(t, many, api.ErrSize) // by Check: such a sum is too deep.
	refusesBody(t, many+" +", api.ErrForm)
}

func TestP2_6ReadWhatIsWrongFirst(t *testing.T) {
	many := "use " + strings.Repeat("a ", api.MaxTokens) // one token too many
	deep := "type a = " + within(deepest, "[", "int", "]")
	lines := strings.Repeat("use a\n", api.MaxLines)
	for _, c := range []struct {
		s    string
		want api.Errno
	}{
		{many, api.ErrSize},
		{strings.TrimSuffix(many, " a "), api.ErrForm},
		{many + "\nuse int", api.ErrSize},
		{"use int\n" + many, api.ErrForm},
		{"use a\n\n" + many + "\n?", api.ErrSize},
		{deep, api.ErrSize},
		{deep + "\nuse", api.ErrSize},
		{"use\n" + deep, api.ErrForm},
		{deep + " ?", api.ErrForm}, // as a line is cut before it is looked at
		{"? " + deep, api.ErrForm},
		{"use a " + deep, api.ErrForm},
		{lines, api.OK},
		{lines + "use a", api.ErrSize},
		{lines + "use a\nuse", api.ErrForm},
		{lines + "use a\nuse int", api.ErrForm},
		{lines + strings.Repeat("\n", 200), api.OK},
	} {
		if _, e := tree.Read(c.s); e != c.want {
			t.Errorf("Read of %.60q: %v, want %v", c.s, e, c.want)
		}
	}
}

func TestP2_6ReadRefusesWhatCheckRefuses(t *testing.T) {
	refuses(t, "func f(a: int, a: int, a: int, a: int, a: int, a: int, a: int, a: int, a: int): int = 1", api.ErrSize)
	refusesBody(t, "f(1, 2, 3, 4, 5, 6, 7, 8, 9)", api.ErrSize)
	refusesBody(t, "[1, 2, 3, 4, 5, 6, 7, 8, 9]", api.ErrSize)
	refusesBody(t, within(api.MaxNest, "[", "1", "]"), api.ErrSize)
	refusesBody(t, within(api.MaxNest, "f(", "1", ")"), api.ErrSize)
	refusesBody(t, "p"+strings.Repeat("[0]", api.MaxNest), api.ErrSize)
	refusesBody(t, "1"+strings.Repeat(" + 1", api.MaxNest), api.ErrSize)
	readsBody(t, within(api.MaxNest-1, "[", "1", "]"), nested(api.MaxNest, num(1)))
	readsBody(t, "[1, 2, 3, 4, 5, 6, 7, 8]", items(num(1), num(2), num(3), num(4), num(5), num(6), num(7), num(8)))
}

// draw: numbers that look drawn, the same each time.
type draw uint64

func (d *draw) n(most int) int {
	*d = *d*6364136223846793005 + 1442695040888963407
	return int(uint64(*d>>33) % uint64(most))
}

func (d *draw) name() string { return []string{"a", "m", "p9", "fun", "abcdefgh", "ints"}[d.n(6)] }

func (d *draw) nameOrNone() string { return []string{"", d.name()}[d.n(2)] }

func (d *draw) typ(depth int) api.Type {
	k := 1 + d.n(4)
	switch {
	case k == api.Name:
		return namedOf(d.nameOrNone(), d.name())
	case k == api.List && depth < api.MaxNest:
		return list(d.typ(depth + 1))
	case k == api.Text:
		return text()
	}
	return whole()
}

func (d *draw) exprs(n, depth int) (l []api.Expr) {
	for range n {
		l = append(l, d.expr(depth))
	}
	return l
}

func (d *draw) expr(depth int) api.Expr {
	k := 1 + d.n(7)
	if depth > 4 && d.n(3) > 0 || depth == api.MaxNest {
		k = 1 + d.n(3)
	}
	switch k {
	case api.Number:
		return num(d.n(api.MaxNumber + 1))
	case api.Quoted:
		return quoted([]string{"", "a b", "+", "[int]"}[d.n(4)])
	case api.Param:
		return param(d.name())
	case api.Call:
		return callOf(d.nameOrNone(), d.name(), d.exprs(d.n(4), depth+1)...)
	case api.Items:
		return items(d.exprs(1+d.n(3), depth+1)...)
	}
	return api.Expr{Kind: k, Args: d.exprs(2, depth+1)}
}

func (d *draw) fields(n int) (l []api.Field) {
	for range n {
		l = append(l, field(d.name(), d.typ(1)))
	}
	return l
}

func (d *draw) module() api.Module {
	m := api.Module{Types: d.fields(d.n(3))}
	for range d.n(3) {
		m.Uses = append(m.Uses, d.name())
	}
	for range d.n(4) {
		m.Funcs = append(m.Funcs, api.Func{Name: d.name(), Var: d.nameOrNone(), Params: d.fields(d.n(4)), Result: d.typ(1), Body: d.expr(1)})
	}
	return m
}

func TestP2_6ReadReadsWhatShowWrites(t *testing.T) {
	d := draw(3)
	read := 0
	for range 2000 {
		m := d.module()
		s, e := tree.Show(m)
		if e != api.OK {
			t.Fatalf("Show of %v: %v", m, e)
		}
		if got, e := tree.Read(s); e == api.OK {
			read++
			if !same(got, m) {
				t.Fatalf("Read of %q: %v, want %v", s, got, m)
			}
		} else if e != api.ErrSize {
			t.Fatalf("Read of %q: %v", s, e)
		}
	}
	if read < 1500 {
		t.Errorf("only %d were read", read)
	}
}

// Whatever Read is given, what it tells is what Check takes, and shown and read again it is the same.
func TestP2_6ReadOfAnything(t *testing.T) {
	d := draw(5)
	words := []string{"use", "type", "func", "int", "text", "a", "f", "1", `"x"`, "=", "(", ")", "[", "]", ",", "+", ".", ":", "<", ">", "\n"}
	read := 0
	for range 30000 {
		s := []string{"", "type a = ", "func f(): int = ", "func f("}[d.n(4)]
		for range d.n(7) {
			s += words[d.n(len(words))] + " "
		}
		m, e := tree.Read(s)
		if e != api.OK {
			if e != api.ErrForm || !same(m, api.Module{}) {
				t.Fatalf("Read of %q: %v, %v", s, m, e)
			}
			continue
		}
		read++
		shown, e := tree.Show(m)
		if e != api.OK {
			t.Fatalf("Read of %q tells %v, which Show refuses: %v", s, m, e)
		}
		reads(t, shown, m)
	}
	if read < 1000 {
		t.Errorf("only %d texts were read", read)
	}
}

func TestAnswersShareNothing(t *testing.T) {
	s := "use a\nuse b\ntype t = [[int]]\nfunc f<t>(p: [t], q: int): [int] = f(1, 2, 3)[0] + [a, b + c + d, e][g(1)]\nfunc f(p: [int]): int = m.f(1)[0][1]\n"
	a, _ := tree.Read(s)
	b, _ := tree.Read(s)
	l := append(spans(reflect.ValueOf(a)), spans(reflect.ValueOf(b))...)
	if len(l) < 30 {
		t.Errorf("only %d lists", len(l))
	}
	apart(t, l)
}
