package module_test

import (
	"reflect"
	"slices"
	"strings"
	"testing"

	"scullery/alias"
	"scullery/api"
	"scullery/body"
	"scullery/face"
	"scullery/module"
	"scullery/sign"
	"scullery/tree"
)

// told: what is wrong with a module, found another way: each thing is asked alone, by a module that has what stands ahead of it, too.
func told(m api.Module, l []api.Import) (diags []api.Diag) {
	for i := range m.Uses {
		d := alias.Uses(api.Module{Uses: m.Uses[:i+1]}, l)
		diags = append(diags, d[len(alias.Uses(api.Module{Uses: m.Uses[:i]}, l)):]...)
	}
	for i, f := range m.Types {
		if _, code := alias.Solve(m, l, "", f.Is); slices.ContainsFunc(m.Types[:i], func(g api.Field) bool { return g.Name == f.Name }) {
			diags = append(diags, at(f.Name, api.Twice))
		} else if code != 0 {
			diags = append(diags, at(f.Name, code))
		}
	}
	own, _ := sign.Face(m, l)
	for i, f := range m.Funcs {
		if code := body.One(m, l, own, i); code != 0 {
			diags = append(diags, at(f.Name, code))
		}
	}
	return diags
}

func TestP9_2CheckOfDrawnSources(t *testing.T) {
	d, l, count := draw(92), imports(), map[int]int{}
	for range 20000 {
		s := d.source()
		m, e := tree.Read(s)
		if e != api.OK {
			t.Fatalf("%q: %v", s, e)
		}
		own, _ := sign.Face(m, l)
		want := told(m, l)
		checks(t, s, l, own, want...)
		if e := face.CheckImports([]api.Import{{Name: "x", There: true, Face: own}}); e != api.OK {
			t.Errorf("the face of %q, as an import: %v", s, e)
		}
		count[0] += min(1, len(own.Funcs))
		for _, one := range want {
			count[one.Code]++
		}
	}
	for _, code := range []int{0, api.Round, api.Missing, api.Twice, api.NoType, api.NoName, api.Count, api.Mismatch} {
		if count[code] < 500 {
			t.Errorf("outcomes: %v", count)
		}
	}
}

func TestP9_1UsesOfDrawnSources(t *testing.T) {
	d := draw(91)
	for range 20000 {
		s := d.source()
		var want []string
		for _, name := range []string{"bare", "gone", "m", "n", "none"} {
			if slices.Contains(strings.Split(s, "\n"), "use "+name) {
				want = append(want, name)
			}
		}
		uses(t, s, want...)
	}
}

// Sources out of which bytes are taken, or into which some are put, are read or not: tree tells which.
func TestDrawnSourcesThatMayBeBroken(t *testing.T) {
	d, l, count := draw(93), imports(), 0
	for range 20000 {
		s := d.source()
		from := d.n(len(s) + 1)
		s = s[:from] + d.of("", "", "\n", " ", "(", "]", "=", "\"", "x", "0", "use", "\xff", "\x00", ";") + s[min(len(s), from+d.n(2)):]
		if _, e := tree.Read(s); e != api.OK {
			none(t, s)
			count++
		} else if _, _, e := module.Check(s, l); e != api.OK {
			t.Errorf("Check of %q: %v", s, e)
		}
	}
	if count < 5000 || count > 19000 {
		t.Errorf("%d are broken", count)
	}
}

// What is handed in stays as it was, spare room too, and is answered the same again.
func TestListsHandedInStayAsTheyWere(t *testing.T) {
	d := draw(96)
	for range 2000 {
		s, l := d.source(), withRoom()
		before := spare(l)
		f, diags, e := module.Check(s, l)
		if !reflect.DeepEqual(before, spare(l)) {
			t.Errorf("of %q the imports are now %v", s, l)
		}
		// What was answered may be written over, without being kept.
		again := face.Copy(f)
		clear(f.Types[:cap(f.Types)])
		clear(f.Funcs[:cap(f.Funcs)])
		f2, diags2, e2 := module.Check(s, l)
		if !face.Same(again, f2) || !slices.Equal(diags, diags2) || e != e2 {
			t.Errorf("another answer of %q", s)
		}
	}
}

func TestAnswersShareNothing(t *testing.T) {
	s, l := source("use mm", "use bb", "use mm", "type aa = mm.long", "type bb = [mm.most]", "type cc = cc", "func ff<tt>(pp: aa, qq: aa, rr: [tt], ss: [tt]): aa = pp", "func gg(pp: aa): mm.long = zz", "func ff(): int = 1", "func hh(): none = 1"), imports()[:3]
	l[2].Name = "mm"
	f, d, _ := module.Check(s, l)
	f2, d2, _ := module.Check(s, l)
	u, u2 := module.Uses(s), module.Uses(s)
	if len(f.Types) != 2 || len(f.Funcs) != 2 || len(d) != 6 || len(u) != 2 {
		t.Fatal(f, d, u)
	}
	apart(t, s, l, f, d, f2, d2, u, u2)
}
