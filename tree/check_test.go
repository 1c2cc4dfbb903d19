package tree_test

import (
	"math"
	"reflect"
	"slices"
	"strings"
	"testing"

	"scullery/api"
	"scullery/token"
	"scullery/tree"
)

// noIdents: texts that may be no names.
func noIdents() []string {
	return []string{"use", "type", "func", "int", "text", " ", "A", "1", "1a", "a b", "a.b", "a_b", "é", " a", "a\n", "\x00", "abcdefghi", "Int", strings.Repeat("a", 1<<16)}
}

func noKinds(most int) []int {
	return []int{0, -1, most + 1, 100, 256 + 1, 1<<32 + 1, math.MaxInt, math.MinInt}
}

func TestP2_1Ident(t *testing.T) {
	for _, s := range []string{"a", "z9", "abcdefgh", "uses", "us", "types", "typ", "funcs", "fun", "ints", "in", "int1", "texts", "tex", "list", "name"} {
		if !tree.Ident(s) {
			t.Errorf("Ident(%q): false", s)
		}
	}
	for _, s := range append(noIdents(), "") {
		if tree.Ident(s) {
			t.Errorf("Ident(%.20q): true", s)
		}
	}
}

func TestP2_1IdentIsAWord(t *testing.T) {
	for i := range 256 {
		for _, s := range []string{string([]byte{byte(i)}), string([]byte{'a', byte(i)}), string([]byte{byte(i), 'a'})} {
			if tree.Ident(s) != token.Word(s) {
				t.Errorf("Ident(%q): %v", s, tree.Ident(s))
			}
		}
	}
}

func TestP2_2TypesThatMayBe(t *testing.T) {
	for _, is := range []api.Type{whole(), text(), list(whole()), list(list(text())), named("a"), named("abcdefgh"), namedOf("m", "a"), list(namedOf("m", "t"))} {
		checksType(t, is, api.OK)
	}
	is := whole()
	is.Args = []api.Type{}
	checksType(t, is, api.OK)
}

func TestP2_2TypeDepth(t *testing.T) {
	for depth := 1; depth < 3*api.MaxNest; depth++ {
		want := api.OK
		if depth > api.MaxNest {
			want = api.ErrSize
		}
		checksType(t, lists(depth, whole()), want)
		checksType(t, lists(depth, named("a")), want)
	}
	// Such a list stands within itself.
	round := make([]api.Type, 1)
	round[0] = api.Type{Kind: api.List, Args: round}
	checksType(t, round[0], api.ErrSize)
}

func TestP2_2TypeKind(t *testing.T) {
	for _, k := range noKinds(api.Name) {
		checksType(t, api.Type{Kind: k}, api.ErrKind)
		checksType(t, api.Type{Kind: k, Of: "?", Name: "?", Args: []api.Type{{}, {}}}, api.ErrKind)
		checksType(t, list(api.Type{Kind: k}), api.ErrKind)
	}
}

func TestP2_2TypeArgs(t *testing.T) {
	for n := range 4 {
		l := slices.Repeat([]api.Type{whole()}, n)
		form := func(fits bool) api.Errno {
			if fits {
				return api.OK
			}
			return api.ErrForm
		}
		checksType(t, api.Type{Kind: api.Int, Args: l}, form(n == 0))
		checksType(t, api.Type{Kind: api.Text, Args: l}, form(n == 0))
		checksType(t, api.Type{Kind: api.List, Args: l}, form(n == 1))
		checksType(t, api.Type{Kind: api.Name, Name: "a", Args: l}, form(n == 0))
	}
}

func TestP2_2TypeNames(t *testing.T) {
	for _, s := range append(noIdents(), "") {
		checksType(t, named(s), api.ErrForm)
		checksType(t, namedOf("m", s), api.ErrForm)
		if s != "" {
			checksType(t, namedOf(s, "a"), api.ErrForm)
		}
	}
	for _, s := range []string{"a", "int", "?"} {
		for _, is := range []api.Type{whole(), text(), list(whole())} {
			is.Name = s
			checksType(t, is, api.ErrForm)
			checksType(t, list(is), api.ErrForm)
			is.Name, is.Of = "", s
			checksType(t, is, api.ErrForm)
		}
	}
}

func TestP2_2TypeOrderOfErrors(t *testing.T) {
	noKind := api.Type{Kind: 9}
	checksType(t, lists(api.MaxNest, noKind), api.ErrKind)
	checksType(t, lists(api.MaxNest+1, noKind), api.ErrSize)
	checksType(t, lists(api.MaxNest, named("?")), api.ErrForm)
	checksType(t, lists(api.MaxNest+1, named("?")), api.ErrSize)
	checksType(t, api.Type{Kind: api.List, Args: []api.Type{noKind, noKind}}, api.ErrForm)
	checksType(t, api.Type{Kind: api.List, Name: "a", Args: []api.Type{noKind}}, api.ErrForm)
	checksType(t, api.Type{Kind: api.List, Of: "a", Args: []api.Type{noKind}}, api.ErrForm)
	checksType(t, api.Type{Kind: api.Int, Args: []api.Type{noKind}}, api.ErrForm)
}

func TestP2_3ExpressionsThatMayBe(t *testing.T) {
	for _, x := range []api.Expr{
		num(0), num(1), num(api.MaxNumber),
		quoted(""), quoted("a b"), quoted("int"), quoted(strings.Repeat("~", api.MaxQuote)),
		param("p"), param("abcdefgh"),
		call("f"), call("f", num(1)), callOf("m", "f"), callOf("m", "f", num(1), quoted("")),
		call("f", slices.Repeat([]api.Expr{num(1)}, api.MaxArgs)...),
		sum(num(1), quoted("a")), items(num(1)), items(slices.Repeat([]api.Expr{num(1)}, api.MaxArgs)...),
		at(num(1), num(2)), at(at(param("p"), num(0)), sum(num(1), num(2))),
	} {
		checksExpr(t, x, api.OK)
		if len(x.Args) == 0 {
			x.Args = []api.Expr{}
			checksExpr(t, x, api.OK)
		}
	}
}

func TestP2_3ExpressionDepth(t *testing.T) {
	for depth := 1; depth < 3*api.MaxNest; depth++ {
		want := api.OK
		if depth > api.MaxNest {
			want = api.ErrSize
		}
		checksExpr(t, nested(depth, num(1)), want)
		left, right, calls := num(1), num(1), num(1)
		for range depth - 1 {
			left, right, calls = sum(left, num(1)), at(num(1), right), call("f", num(1), num(2), calls)
		}
		checksExpr(t, left, want)
		checksExpr(t, right, want)
		checksExpr(t, calls, want)
	}
	// Such a list stands within itself.
	round := make([]api.Expr, 2)
	round[0] = api.Expr{Kind: api.Sum, Args: round}
	round[1] = round[0]
	checksExpr(t, round[0], api.ErrSize)
}

func TestP2_3ExpressionKind(t *testing.T) {
	for _, k := range noKinds(api.At) {
		checksExpr(t, api.Expr{Kind: k}, api.ErrKind)
		checksExpr(t, api.Expr{Kind: k, N: -1, Of: "?", S: "?", Args: make([]api.Expr, api.MaxArgs+1)}, api.ErrKind)
		checksExpr(t, call("f", num(1), api.Expr{Kind: k}), api.ErrKind)
	}
}

// fitting: an expression of each kind, by the kind.
func fitting() []api.Expr {
	return []api.Expr{api.Number: num(1), api.Quoted: quoted("a"), api.Param: param("p"), api.Call: call("f", num(1)),
		api.Sum: sum(num(1), num(2)), api.Items: items(num(1)), api.At: at(param("p"), num(0))}
}

func TestP2_3ExpressionArgs(t *testing.T) {
	for n := range api.MaxArgs + 3 {
		fits := []bool{api.Number: n == 0, api.Quoted: n == 0, api.Param: n == 0, api.Call: true, api.Sum: n == 2, api.Items: n > 0, api.At: n == 2}
		for k, x := range fitting() {
			if k == 0 {
				continue
			}
			want := api.OK
			switch {
			case n > api.MaxArgs:
				want = api.ErrSize
			case !fits[k]:
				want = api.ErrForm
			}
			x.Args = slices.Repeat([]api.Expr{num(1)}, n)
			checksExpr(t, x, want)
		}
	}
}

func TestP2_3ExpressionNumber(t *testing.T) {
	for _, n := range []int{1, -1, api.MaxNumber, math.MinInt, math.MaxInt} {
		for k, x := range fitting() {
			if k > api.Number {
				x.N = n
				checksExpr(t, x, api.ErrForm)
			}
		}
	}
	for _, n := range []int{-1, math.MinInt, api.MaxNumber + 1, math.MaxInt} {
		checksExpr(t, num(n), api.ErrRange)
		checksExpr(t, items(num(1), num(n)), api.ErrRange)
	}
}

func TestP2_3ExpressionNames(t *testing.T) {
	for k, x := range fitting() {
		switch k {
		case 0, api.Call:
			continue
		case api.Number, api.Sum, api.Items, api.At:
			x.S = "a"
			checksExpr(t, x, api.ErrForm)
			x.S = ""
		}
		x.Of = "m"
		checksExpr(t, x, api.ErrForm)
	}
	for _, s := range append(noIdents(), "") {
		checksExpr(t, param(s), api.ErrForm)
		checksExpr(t, call(s), api.ErrForm)
		checksExpr(t, callOf("m", s, num(1)), api.ErrForm)
		if s != "" {
			checksExpr(t, callOf(s, "f"), api.ErrForm)
		}
	}
	for _, s := range []string{`"`, `\`, "\n", "\x7f", "é", strings.Repeat("a", api.MaxQuote+1)} {
		checksExpr(t, quoted(s), api.ErrForm)
	}
}

func TestP2_3ExpressionOrderOfErrors(t *testing.T) {
	noKind := api.Expr{Kind: 9}
	many := slices.Repeat([]api.Expr{noKind}, api.MaxArgs+1)
	checksExpr(t, nested(api.MaxNest, noKind), api.ErrKind)
	checksExpr(t, nested(api.MaxNest+1, noKind), api.ErrSize)
	checksExpr(t, nested(api.MaxNest, num(-1)), api.ErrRange)
	checksExpr(t, nested(api.MaxNest+1, num(-1)), api.ErrSize)
	checksExpr(t, nested(api.MaxNest+1, param("?")), api.ErrSize)
	checksExpr(t, api.Expr{Kind: api.Param, N: 1, Of: "m", S: "?", Args: many}, api.ErrSize)
	checksExpr(t, api.Expr{Kind: api.Number, N: -1, Args: many}, api.ErrSize)
	checksExpr(t, api.Expr{Kind: api.Number, N: -1, Of: "m"}, api.ErrForm)
	checksExpr(t, api.Expr{Kind: api.Number, N: -1, S: "a"}, api.ErrForm)
	checksExpr(t, api.Expr{Kind: api.Number, N: -1, Args: []api.Expr{noKind}}, api.ErrForm)
	checksExpr(t, items(noKind, num(-1)), api.ErrKind)
	checksExpr(t, items(num(-1), noKind), api.ErrRange)
	checksExpr(t, items(items(param("?")), noKind), api.ErrForm)
	checksExpr(t, api.Expr{Kind: api.Items, N: 1, Args: []api.Expr{noKind}}, api.ErrForm)
	checksExpr(t, api.Expr{Kind: api.Sum, Args: []api.Expr{noKind}}, api.ErrForm)
	checksExpr(t, api.Expr{Kind: api.Call, S: "?", Args: []api.Expr{noKind}}, api.ErrForm)
}

func TestP2_4CheckTakes(t *testing.T) {
	checks(t, api.Module{}, api.OK)
	checks(t, api.Module{Uses: []string{}, Types: []api.Field{}, Funcs: []api.Func{}}, api.OK)
	f := fun(param("p"))
	f.Var, f.Params = "t", []api.Field{field("p", named("t")), field("q", list(whole()))}
	checks(t, api.Module{Uses: []string{"m", "m"}, Types: []api.Field{field("a", whole()), field("a", text())}, Funcs: []api.Func{f, f}}, api.OK)
}

func TestP2_4CheckLines(t *testing.T) {
	for u := range api.MaxLines + 2 {
		for _, k := range []int{0, 1, api.MaxLines - u - 1, api.MaxLines - u, api.MaxLines - u + 1} {
			for _, f := range []int{0, 1, api.MaxLines - u - k, api.MaxLines - u - k + 1} {
				if k < 0 || f < 0 {
					continue
				}
				m := api.Module{
					Uses:  slices.Repeat([]string{"m"}, u),
					Types: slices.Repeat([]api.Field{field("a", whole())}, k),
					Funcs: slices.Repeat([]api.Func{fun(num(1))}, f),
				}
				want := api.OK
				if u+k+f > api.MaxLines {
					want = api.ErrSize
				}
				checks(t, m, want)
			}
		}
	}
	checks(t, api.Module{Uses: slices.Repeat([]string{"?"}, api.MaxLines+1)}, api.ErrSize)
	checks(t, api.Module{Types: make([]api.Field, api.MaxLines+1)}, api.ErrSize)
	checks(t, api.Module{Funcs: make([]api.Func, api.MaxLines+1)}, api.ErrSize)
}

func TestP2_4CheckNames(t *testing.T) {
	for _, s := range append(noIdents(), "") {
		checks(t, uses("m", s), api.ErrForm)
		checks(t, types(field(s, whole())), api.ErrForm)
		checks(t, types(field("a", whole()), field(s, api.Type{})), api.ErrForm)
		f := fun(num(1))
		f.Name = s
		checks(t, funcs(f), api.ErrForm)
		f = fun(num(1))
		f.Params = []api.Field{field("p", whole()), field(s, whole())}
		checks(t, funcs(f), api.ErrForm)
		if s != "" {
			f = fun(num(1))
			f.Var = s
			checks(t, funcs(f), api.ErrForm)
		}
	}
}

func TestP2_4CheckParams(t *testing.T) {
	for n := range api.MaxArgs + 4 {
		f := fun(num(1))
		f.Params = slices.Repeat([]api.Field{field("p", whole())}, n)
		want := api.OK
		if n > api.MaxArgs {
			want = api.ErrSize
		}
		checks(t, funcs(f), want)
	}
}

func TestP2_4CheckOrderOfErrors(t *testing.T) {
	noKind, badRange := api.Type{Kind: 9}, num(-1)
	many := make([]api.Field, api.MaxArgs+1)
	good := fun(num(1))
	for i, c := range []struct {
		m    api.Module
		want api.Errno
	}{
		{api.Module{Uses: []string{"?"}, Types: []api.Field{field("a", noKind)}}, api.ErrForm},
		{api.Module{Uses: []string{"m"}, Types: []api.Field{field("a", noKind)}, Funcs: []api.Func{fun(badRange)}}, api.ErrKind},
		{types(field("a", noKind), field("?", whole())), api.ErrKind},
		{types(field("?", whole()), field("a", noKind)), api.ErrForm},
		{types(field("?", noKind)), api.ErrForm},
		{types(field("a", lists(api.MaxNest+1, whole())), field("?", whole())), api.ErrSize},
		{funcs(api.Func{Name: "?", Params: many, Result: noKind, Body: badRange}), api.ErrForm},
		{funcs(api.Func{Name: "f", Var: "?", Params: many, Result: noKind, Body: badRange}), api.ErrForm},
		{funcs(api.Func{Name: "f", Params: many, Result: noKind, Body: badRange}), api.ErrSize},
		{funcs(api.Func{Name: "f", Params: []api.Field{field("?", noKind)}, Result: noKind, Body: badRange}), api.ErrForm},
		{funcs(api.Func{Name: "f", Params: []api.Field{field("p", noKind), field("?", noKind)}, Result: named("?"), Body: badRange}), api.ErrKind},
		{funcs(api.Func{Name: "f", Params: []api.Field{field("p", whole()), field("?", noKind)}, Result: noKind, Body: badRange}), api.ErrForm},
		{funcs(api.Func{Name: "f", Result: noKind, Body: badRange}), api.ErrKind},
		{funcs(api.Func{Name: "f", Result: named("?"), Body: badRange}), api.ErrForm},
		{funcs(api.Func{Name: "f", Result: whole(), Body: badRange}), api.ErrRange},
		{funcs(good, fun(badRange), api.Func{}), api.ErrRange},
		{funcs(good, api.Func{}, fun(badRange)), api.ErrForm},
	} {
		if e := tree.Check(c.m); e != c.want {
			t.Errorf("case %d: %v, want %v", i, e, c.want)
		}
	}
}

// full: a module with spare room in each of its lists.
func full() api.Module {
	f := api.Func{Name: "f", Var: "t", Result: list(whole())}
	f.Params = []api.Field{field("p", named("t")), field("spare", text())}[:1]
	f.Result.Args = []api.Type{whole(), text()}[:1]
	f.Body = items([]api.Expr{num(1), num(2), num(3)}[:2]...)
	return api.Module{
		Uses:  []string{"m", "spare"}[:1],
		Types: []api.Field{field("a", whole()), field("spare", whole())}[:1],
		Funcs: []api.Func{f, fun(num(7))}[:1],
	}
}

// room: all that lies in the lists of such a module.
func room(m api.Module) []any {
	f := m.Funcs[0]
	return []any{m.Uses[:2], m.Types[:2], m.Funcs[:2], f.Params[:2], f.Result.Args[:2], f.Body.Args[:3]}
}

func TestModulesHandedInStayAsTheyWere(t *testing.T) {
	m, before := full(), full()
	tree.Check(m)
	tree.Show(m)
	if !reflect.DeepEqual(room(m), room(before)) {
		t.Errorf("changed: %v", room(m))
	}
}
