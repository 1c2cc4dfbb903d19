package sign_test

import (
	"math"
	"reflect"
	"slices"
	"testing"

	"scullery/alias"
	"scullery/api"
	"scullery/face"
	"scullery/sign"
	"scullery/tree"
)

// told: what One should tell, found another way: all that is wrong is listed, and the first of it taken.
func told(m api.Module, l []api.Import, place int) (api.Sig, int) {
	var codes []int
	f := m.Funcs[place]
	s := api.Sig{Name: f.Name}
	for i := range place {
		if m.Funcs[i].Name == f.Name {
			codes = append(codes, api.Twice)
		}
	}
	seen := map[string]bool{}
	for _, p := range f.Params {
		if seen[p.Name] {
			codes = append(codes, api.Twice)
		}
		seen[p.Name] = true
		is, code := alias.Solve(m, l, f.Var, p.Is)
		s.Params, codes = append(s.Params, is), append(codes, code)
	}
	is, code := alias.Solve(m, l, f.Var, f.Result)
	s.Result, codes = is, append(codes, code)
	for _, code := range codes {
		if code != 0 {
			return api.Sig{}, code
		}
	}
	return s, 0
}

func TestP7_1OneOfDrawnModules(t *testing.T) {
	d, l, count := draw(71), imports(t), map[int]int{}
	for range 20000 {
		m := d.module()
		if e := tree.Check(m); e != api.OK {
			t.Fatal(e)
		}
		for i := range m.Funcs {
			want, code := told(m, l, i)
			if code == 0 {
				right(t, m, l, i, want)
			} else {
				wrong(t, m, l, i, code)
			}
			count[code]++
		}
	}
	for _, code := range []int{0, api.Twice, api.NoType, api.Round} {
		if count[code] < 500 {
			t.Errorf("outcomes: %v", count)
		}
	}
}

func TestP7_2FaceOfDrawnModules(t *testing.T) {
	d, l := draw(72), imports(t)
	for range 20000 {
		m := d.module()
		var want api.Face
		var diags []api.Diag
		want.Types, _ = alias.Types(m, l)
		by := map[string]api.Sig{}
		for i, f := range m.Funcs {
			s, code := told(m, l, i)
			if code != 0 {
				diags = append(diags, at(f.Name, code))
			} else {
				by[f.Name] = s
			}
		}
		for _, name := range []string{"a", "f", "g", "h", "i", "m"} {
			if s, ok := by[name]; ok {
				want.Funcs = append(want.Funcs, s)
			}
		}
		faceIs(t, m, l, want, diags...)
		if f, _ := sign.Face(m, l); face.Check(f) != api.OK {
			t.Errorf("Face of %v: %v: %v", m, f, face.Check(f))
		}
	}
}

func TestAnswersShareNothing(t *testing.T) {
	m, l := whole(t, "use m", "type aa = m.long", "type bb = [m.most]", "func ff<tt>(pp: aa, qq: aa, rr: [tt], ss: [tt]): aa = pp", "func gg(pp: aa): m.long = pp", "func ff(): int = 1", "func hh(): none = 1"), imports(t)
	s, _ := sign.One(m, l, 0)
	again, _ := sign.One(m, l, 0)
	f, d := sign.Face(m, l)
	f2, d2 := sign.Face(m, l)
	if len(s.Params) != 4 || len(f.Types) != 2 || len(f.Funcs) != 2 || len(d) != 2 {
		t.Fatal(s, f, d)
	}
	apart(t, m, l, s, again, f, d, f2, d2)
}

// What is handed in stays as it was, spare room too, and is answered the same again.
func TestListsHandedInStayAsTheyWere(t *testing.T) {
	d := draw(76)
	for range 500 {
		m, l := d.module(), imports(t)
		m.Uses = append(m.Uses, "x", "y")[:len(m.Uses)]
		m.Types = append(m.Types, api.Field{Name: "x"}, api.Field{Name: "y"})[:len(m.Types)]
		m.Funcs = append(m.Funcs, api.Func{Name: "x"}, api.Func{Name: "y"})[:len(m.Funcs)]
		for i := range m.Funcs {
			p := m.Funcs[i].Params
			m.Funcs[i].Params = append(p, api.Field{Name: "x"}, api.Field{Name: "y"})[:len(p)]
		}
		before := spare(m)
		f, wrong := sign.Face(m, l)
		for i := range m.Funcs {
			sign.One(m, l, i)
		}
		if f2, wrong2 := sign.Face(m, l); !face.Same(f, f2) || !slices.Equal(wrong, wrong2) {
			t.Errorf("another answer of %v", m)
		}
		if !reflect.DeepEqual(before, spare(m)) {
			t.Errorf("%v is now %v", before, spare(m))
		}
		if !reflect.DeepEqual(l, imports(t)) {
			t.Errorf("the imports are now %v", l)
		}
	}
}

// spare: a copy of a module's lists with their spare room.
func spare(m api.Module) []any {
	funcs := slices.Clone(m.Funcs[:cap(m.Funcs)])
	for i, f := range funcs {
		funcs[i].Params = slices.Clone(f.Params[:cap(f.Params)])
	}
	return []any{slices.Clone(m.Uses[:cap(m.Uses)]), slices.Clone(m.Types[:cap(m.Types)]), funcs}
}

// Of modules that may not be, and of places where no function is, nothing is promised, but the call ends.
func TestWrongOnesEnd(t *testing.T) {
	m := api.Module{Uses: []string{"", "m", "\xff"}}
	for _, is := range []api.Type{{}, {Kind: -1}, {Kind: 5}, {Kind: api.List}, {Kind: api.List, Args: []api.Type{{}, {}}}, own(""), of("m", ""), of(" ", "a"), list(5000, number()), list(5000, own("a"))} {
		m.Types = append(m.Types, api.Field{Name: "a", Is: is}, api.Field{Is: is})
		m.Funcs = append(m.Funcs, api.Func{Params: []api.Field{{Is: is}, {}}, Result: is}, api.Func{Name: "f", Var: "*", Result: is}, api.Func{Name: "\xff", Params: make([]api.Field, 5000)})
	}
	l := []api.Import{{Name: "m", There: true, Face: api.Face{Types: known("a", "x", "", "")}}, {Name: "m"}, {}, {There: true}}
	for i := range m.Funcs {
		if s, code := sign.One(m, l, i); code != 0 && (s.Name != "" || len(s.Params) > 0 || s.Result != "") {
			t.Errorf("One, at %d: %.100v, %d", i, s, code)
		}
	}
	sign.Face(m, l)
	for _, place := range []int{-1, math.MinInt, len(m.Funcs), math.MaxInt} {
		if s, code := sign.One(m, l, place); code == 0 || s.Name != "" {
			t.Errorf("One, at %d: %v, %d", place, s, code)
		}
		sign.One(api.Module{}, nil, place)
	}
}
