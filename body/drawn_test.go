package body_test

import (
	"reflect"
	"slices"
	"strings"
	"testing"

	"scullery/alias"
	"scullery/api"
	"scullery/body"
	"scullery/face"
	"scullery/sign"
	"scullery/tree"
)

// draw: numbers that look drawn, the same each time.
type draw uint64

func (d *draw) n(most int) int {
	*d = *d*6364136223846793005 + 1442695040888963407
	return int(uint64(*d>>33) % uint64(most))
}

func (d *draw) of(l ...string) string { return l[d.n(len(l))] }

// nested: a kind, told another way: so many lists of a core.
type nested struct {
	lists int
	core  string
}

func unlist(kind string) nested {
	core := strings.Trim(kind, "[]")
	return nested{(len(kind) - len(core)) / 2, core}
}

func (k nested) tooLong() bool { return 2*k.lists+len(k.core) > api.MaxKind }

// look for what is wrong, another way: all of it is listed, in the order in which it is to be told. Behind the first one the kinds are of no use.
type look struct {
	m      api.Module
	l      []api.Import
	own    api.Face
	params map[string]nested
	codes  []int
}

func (k *look) wrongIf(bad bool, code int) {
	if bad {
		k.codes = append(k.codes, code)
	}
}

func (k *look) function(of, name string) (api.Sig, bool) {
	l := k.own.Funcs
	if of != "" {
		f, _ := alias.From(k.m, k.l, of)
		l = f.Funcs
	}
	for _, s := range l {
		if s.Name == name {
			return s, true
		}
	}
	return api.Sig{}, false
}

func (k *look) at(x api.Expr) nested {
	switch x.Kind {
	case api.Number:
		return nested{0, "int"}
	case api.Quoted:
		return nested{0, "text"}
	case api.Param:
		is, ok := k.params[x.S]
		k.wrongIf(!ok, api.NoName)
		return is
	}
	s, ok := api.Sig{}, true
	if x.Kind == api.Call {
		s, ok = k.function(x.Of, x.S)
		k.wrongIf(!ok, api.NoName)
		k.wrongIf(ok && len(s.Params) != len(x.Args), api.Count)
	}
	var args []nested
	for _, arg := range x.Args {
		args = append(args, k.at(arg))
	}
	if len(k.codes) > 0 {
		return nested{}
	}
	is, fits := nested{}, true
	switch x.Kind {
	case api.Call:
		is, fits = handed(s, args)
	case api.Sum:
		is, fits = args[0], args[0] == args[1] && args[0].lists == 0 && args[0].core != "*"
	case api.Items:
		is, fits = nested{args[0].lists + 1, args[0].core}, len(slices.Compact(slices.Clone(args))) == 1
	case api.At:
		is, fits = nested{args[0].lists - 1, args[0].core}, args[0].lists > 0 && args[1] == nested{0, "int"}
	}
	k.wrongIf(!fits || is.tooLong(), api.Mismatch)
	return is
}

// handed: what a function tells of as many args as it takes.
func handed(s api.Sig, args []nested) (nested, bool) {
	var stands []nested
	fits := true
	for i, p := range s.Params {
		want := unlist(p)
		if want.core == "*" {
			fits = fits && args[i].lists >= want.lists
			stands = append(stands, nested{args[i].lists - want.lists, args[i].core})
		} else {
			fits = fits && args[i] == want
		}
	}
	is := unlist(s.Result)
	if is.core != "*" {
		return is, fits && len(slices.Compact(stands)) < 2
	}
	if len(slices.Compact(slices.Clone(stands))) != 1 {
		return nested{}, false
	}
	return nested{is.lists + stands[0].lists, stands[0].core}, fits
}

// told: what One should tell.
func told(m api.Module, l []api.Import, own api.Face, place int) int {
	s, code := sign.One(m, l, place)
	if code != 0 {
		return code
	}
	k := look{m: m, l: l, own: own, params: map[string]nested{}}
	for i, p := range m.Funcs[place].Params {
		k.params[p.Name] = unlist(s.Params[i])
	}
	is := k.at(m.Funcs[place].Body)
	k.wrongIf(is != unlist(s.Result), api.Mismatch)
	if len(k.codes) > 0 {
		return k.codes[0]
	}
	return 0
}

// kind: a type as it is written, mostly one that may be solved.
func (d *draw) kind() api.Type {
	switch d.n(40) {
	case 0:
		return own("none")
	case 1, 2:
		return list(d.n(2), api.Type{Kind: api.Name, Of: "m", Name: d.of("a", "b", "long", "most")})
	case 3, 4, 5, 6, 7, 8:
		return own(d.of("a", "b"))
	case 9, 10, 11, 12, 13, 14, 15, 16:
		return list(d.n(3), own("t"))
	case 17, 18, 19, 20, 21, 22, 23, 24:
		return list(d.n(3), api.Type{Kind: api.Text})
	}
	return list(d.n(3), api.Type{Kind: api.Int})
}

// expr of any kind, at a depth.
func (d *draw) expr(depth int) api.Expr {
	k := d.n(16)
	if depth == 5 {
		k = d.n(8)
	}
	switch {
	case k < 2:
		return number(d.n(40))
	case k == 2:
		return quoted("x")
	case k < 8:
		return param(d.of("p", "p", "p", "p", "q", "q", "r"))
	case k < 10:
		return made(api.Sum, d.expr(depth+1), d.expr(depth+1))
	case k < 12:
		return made(api.Items, slices.Repeat([]api.Expr{d.expr(depth + 1)}, 1+d.n(3))...)
	case k == 12:
		return made(api.Items, d.expr(depth+1), d.expr(depth+1))
	case k < 15:
		return made(api.At, d.expr(depth+1), number(1))
	}
	return d.call(depth)
}

// call of a function with mostly as many args as those of that name take.
func (d *draw) call(depth int) api.Expr {
	switch d.n(8) {
	case 0:
		return call("m", "none")
	case 1, 2:
		return call("m", d.of("fun", "wrap", "id", "any", "z"), d.expr(depth+1))
	case 3:
		return call("m", d.of("two", "both", "each", "fun"), d.expr(depth+1), d.expr(depth+1))
	case 4:
		return call(d.of("n", "gone", "bare"), "fun", d.expr(depth+1))
	case 5:
		return call("", d.of("f", "g", "h"))
	case 6:
		return call("", d.of("f", "g", "h"), d.expr(depth+1))
	}
	return call("", d.of("f", "g", "h"), d.expr(depth+1), d.expr(depth+1))
}

// module of a few types and functions.
func (d *draw) module() api.Module {
	m := api.Module{Uses: []string{"m", d.of("bare", "gone", "m", "n")}}
	for range 1 + d.n(3) {
		m.Types = append(m.Types, api.Field{Name: d.of("a", "b"), Is: d.kind()})
	}
	for range 1 + d.n(4) {
		f := api.Func{Name: d.of("f", "g", "h", "i"), Var: d.of("", "t", "t", "t"), Result: d.kind(), Body: d.expr(1)}
		for _, name := range []string{"p", d.of("q", "q", "q", "q", "q", "p"), "r"}[:d.n(4)] {
			f.Params = append(f.Params, api.Field{Name: name, Is: d.kind()})
		}
		m.Funcs = append(m.Funcs, f)
	}
	return m
}

// fit: a module of which functions tell what their bodies are, as far as that can be written.
func fit(m api.Module, l []api.Import) {
	for i := range m.Funcs {
		f, _ := sign.Face(m, l)
		s, _ := sign.One(m, l, i)
		k := look{m: m, l: l, own: f, params: map[string]nested{}}
		for at, is := range s.Params {
			k.params[m.Funcs[i].Params[at].Name] = unlist(is)
		}
		is := k.at(m.Funcs[i].Body)
		if len(k.codes) > 0 || is.lists >= api.MaxNest {
			continue
		}
		core := map[string]api.Type{"int": {Kind: api.Int}, "text": {Kind: api.Text}, "*": own("t")}
		m.Funcs[i].Result = list(is.lists, core[is.core])
	}
}

func TestP8_2OneOfDrawnModules(t *testing.T) {
	d, l, count := draw(81), imports(t), map[int]int{}
	for range 20000 {
		m := d.module()
		if d.n(2) == 0 {
			fit(m, l)
		}
		f, _ := sign.Face(m, l)
		if e := tree.Check(m); e != api.OK {
			t.Fatal(e)
		}
		for i := range m.Funcs {
			want := told(m, l, f, i)
			with(t, m, l, f, i, want)
			count[want]++
		}
	}
	for _, code := range []int{0, api.Round, api.Twice, api.NoType, api.NoName, api.Count, api.Mismatch} {
		if count[code] < 500 {
			t.Errorf("outcomes: %v", count)
		}
	}
}

// withRoom: the lists of an expression have spare room with something in it.
func withRoom(x api.Expr) api.Expr {
	args := make([]api.Expr, 0, len(x.Args)+2)
	for _, arg := range x.Args {
		args = append(args, withRoom(arg))
	}
	x.Args = append(args, number(3), quoted("spare"))[:len(args)]
	return x
}

// spare: a copy of the lists of an expression, with their spare room.
func spare(x api.Expr) []any {
	all := slices.Clone(x.Args[:cap(x.Args)])
	l := []any{all}
	for _, arg := range x.Args {
		l = append(l, spare(arg)...)
	}
	return l
}

// What is handed in stays as it was, spare room too, and is answered the same again.
func TestListsHandedInStayAsTheyWere(t *testing.T) {
	d := draw(86)
	for range 2000 {
		m, l := d.module(), imports(t)
		fit(m, l)
		f, _ := sign.Face(m, l)
		f.Funcs = append(f.Funcs, takes("x", "y"), takes("z", "y"))[:len(f.Funcs)]
		for i := range m.Funcs {
			m.Funcs[i].Body = withRoom(m.Funcs[i].Body)
			p := m.Funcs[i].Params
			m.Funcs[i].Params = append(p, api.Field{Name: "x"}, api.Field{Name: "y"})[:len(p)]
		}
		own := face.Copy(api.Face{Types: f.Types, Funcs: f.Funcs[:cap(f.Funcs)]})
		for i, g := range m.Funcs {
			params, exprs := slices.Clone(g.Params[:cap(g.Params)]), spare(g.Body)
			code := body.One(m, l, f, i)
			if again := body.One(m, l, f, i); again != code {
				t.Errorf("%v: %d, then %d", m, code, again)
			}
			if !reflect.DeepEqual(exprs, spare(g.Body)) || !reflect.DeepEqual(params, g.Params[:cap(g.Params)]) {
				t.Errorf("the function is now %v", g)
			}
		}
		if !face.Same(own, api.Face{Types: f.Types, Funcs: f.Funcs[:cap(f.Funcs)]}) || !reflect.DeepEqual(l, imports(t)) {
			t.Errorf("faces are now %v, %v", f, l)
		}
	}
}
