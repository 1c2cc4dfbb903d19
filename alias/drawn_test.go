package alias_test

import (
	"reflect"
	"slices"
	"testing"

	"scullery/alias"
	"scullery/api"
	"scullery/face"
	"scullery/tree"
)

// told: what Solve should tell, found another way: one walks from name to name, and counts lists; who walks further than there are types is in a round.
func told(m api.Module, l []api.Import, v string, is api.Type) (string, int) {
	deep := 0
	for step := 0; step <= len(m.Types); step++ {
		for is.Kind == api.List {
			is, deep = is.Args[0], deep+1
		}
		switch {
		case is.Kind == api.Int:
			return wrapped(deep, "int")
		case is.Kind == api.Text:
			return wrapped(deep, "text")
		case is.Of != "":
			return wrapped(deep, shown(m, l, is.Of, is.Name))
		case step == 0 && is.Name == v:
			return wrapped(deep, "*")
		}
		next := own("")
		for _, f := range slices.Backward(m.Types) {
			if f.Name == is.Name {
				next = f.Is
			}
		}
		if is = next; reflect.DeepEqual(is, own("")) {
			return "", api.NoType
		}
	}
	return "", api.Round
}

func wrapped(n int, s string) (string, int) {
	if s == "" || n > 0 && len(s)+2*n > api.MaxKind {
		return "", api.NoType
	}
	return lists(n, s), 0
}

// shown: the kind of a type of another module; empty: there is none.
func shown(m api.Module, l []api.Import, module, name string) string {
	for _, i := range l {
		for _, k := range i.Face.Types {
			if i.Name == module && k.Name == name && slices.Contains(m.Uses, module) {
				return k.Is
			}
		}
	}
	return ""
}

func TestP6_3SolveOfDrawnModules(t *testing.T) {
	d, l := draw(63), imports(t)
	count := map[int]int{}
	for range 20000 {
		m, is, v := d.module(), d.kind(), d.of("", "a", "t")
		want, code := told(m, l, v, is)
		if s, c := alias.Solve(m, l, v, is); s != want || c != code {
			t.Errorf("Solve of %v, with %q, in %v: %.40q, %d, want %.40q, %d", is, v, m, s, c, want, code)
		}
		count[code]++
	}
	if count[0] < 500 || count[api.NoType] < 500 || count[api.Round] < 500 {
		t.Errorf("outcomes: %v", count)
	}
}

func TestP6_4TypesOfDrawnModules(t *testing.T) {
	d, l := draw(60), imports(t)
	for range 20000 {
		m := d.module()
		if e := tree.Check(m); e != api.OK {
			t.Fatal(e)
		}
		first := map[string]string{}
		var wrong []api.Diag
		for _, f := range m.Types {
			_, twice := first[f.Name]
			is, code := told(m, l, "", f.Is)
			if twice {
				code = api.Twice
			} else {
				first[f.Name] = is
			}
			if code != 0 {
				wrong = append(wrong, at(f.Name, code))
			}
		}
		var right []api.Known
		for _, name := range []string{"a", "b", "c", "d", "e", "f"} {
			if first[name] != "" {
				right = append(right, known(name, first[name])...)
			}
		}
		typesAre(t, m, l, right, wrong)
	}
}

func TestP6_2UsesOfDrawnModules(t *testing.T) {
	d, l := draw(62), imports(t)
	for range 5000 {
		m := d.module()
		var want []api.Diag
		seen := map[string]bool{}
		for _, name := range m.Uses {
			switch {
			case seen[name]:
				want = append(want, at(name, api.Twice))
			case name == "gone" || name == "none":
				want = append(want, at(name, api.Missing))
			}
			seen[name] = true
			if _, ok := alias.From(m, l, name); ok != (name != "gone" && name != "none") {
				t.Errorf("From %q of %v: %v", name, m.Uses, ok)
			}
		}
		usesAre(t, m, l, want...)
	}
}

func TestAnswersShareNothing(t *testing.T) {
	l := imports(t)
	m := whole(t, "use m", "use missing", "use missing", "type aa = m.long", "type bb = [m.most]", "type cc = cc", "type aa = int", "type dd = m.x")
	f, _ := alias.From(m, l, "m")
	g, _ := alias.From(m, l, "m")
	u, w := alias.Uses(m, l), alias.Uses(m, l)
	long, _ := alias.Solve(m, l, "", of("m", "long"))
	longAgain, _ := alias.Solve(m, l, "", own("aa"))
	k, wrong := alias.Types(m, l)
	k2, wrong2 := alias.Types(m, l)
	if len(u) != 2 || long == "" || longAgain != long || len(k) != 3 || len(wrong) != 2 {
		t.Fatal(u, k, wrong)
	}
	apart(t, m, l, f, g, u, w, long, longAgain, k, k2, wrong, wrong2)
	f.Types[0].Name, f.Funcs[0].Params[0] = "z", "z"
	if !face.Same(l[2].Face, faceM()) {
		t.Errorf("what came out leads back: %v", l[2].Face)
	}
}

// What is handed in stays as it was, spare room too, and is answered the same again.
func TestListsHandedInStayAsTheyWere(t *testing.T) {
	d := draw(66)
	for range 500 {
		m, l := d.module(), imports(t)
		m.Types = append(m.Types, api.Field{Name: "x"}, api.Field{Name: "y"})[:len(m.Types)]
		m.Uses = append(m.Uses, "x", "y")[:len(m.Uses)]
		uses, types := slices.Clone(m.Uses[:cap(m.Uses)]), slices.Clone(m.Types[:cap(m.Types)])
		source, _ := tree.Show(m)
		u, k, w := alias.Uses(m, l), []api.Known(nil), []api.Diag(nil)
		for range 2 {
			k, w = alias.Types(m, l)
			alias.From(m, l, "m")
			alias.Solve(m, l, "t", list(2, own("a")))
		}
		if k2, w2 := alias.Types(m, l); !slices.Equal(k, k2) || !slices.Equal(w, w2) || !slices.Equal(u, alias.Uses(m, l)) {
			t.Errorf("another answer of %v", m)
		}
		if now, _ := tree.Show(m); now != source || !slices.Equal(uses, m.Uses[:cap(m.Uses)]) || !reflect.DeepEqual(types, m.Types[:cap(m.Types)]) {
			t.Errorf("%q is now %q", source, now)
		}
		if !reflect.DeepEqual(l, imports(t)) {
			t.Errorf("the imports are now %v", l)
		}
	}
}

// Of modules and types that may not be nothing is promised, but the call ends.
func TestWrongOnesEnd(t *testing.T) {
	odd := []api.Type{{}, {Kind: -1}, {Kind: 5}, {Kind: api.List}, {Kind: api.List, Args: []api.Type{{}, {}}}, own(""), of("m", ""), of(" ", "a"), {Kind: api.Int, Name: "a", Args: []api.Type{number()}}, list(5000, number()), list(5000, own("a"))}
	m := api.Module{Uses: []string{"", "m", "\xff"}}
	for _, is := range odd {
		m.Types = append(m.Types, api.Field{Name: "a", Is: is}, api.Field{Is: is})
	}
	l := []api.Import{{Name: "m", There: true, Face: api.Face{Types: known("a", "x", "", "")}}, {Name: "m"}, {}, {There: true}}
	for _, is := range odd {
		for _, v := range []string{"", "t", "*"} {
			if s, code := alias.Solve(m, l, v, is); code != 0 && s != "" {
				t.Errorf("Solve of %.100v: %q, %d", is, s, code)
			}
		}
	}
	alias.Types(m, l)
	alias.Uses(m, l)
	alias.From(m, l, "")
}
