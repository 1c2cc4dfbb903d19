package face_test

import (
	"slices"
	"testing"

	"scullery/api"
	"scullery/face"
	"scullery/kind"
	"scullery/tree"
)

func TestP5_1CheckTakes(t *testing.T) {
	checks(t, api.Face{}, api.OK)
	checks(t, api.Face{Types: []api.Known{}, Funcs: []api.Sig{}}, api.OK)
	checks(t, some(), api.OK)
	for _, k := range closed() {
		checks(t, types(known("a", k)), api.OK)
	}
	for _, k := range append(closed(), open()...) {
		checks(t, funcs(sig("a", k)), api.OK)
		checks(t, funcs(sig("a", "int", k)), api.OK)
		checks(t, funcs(sig("a", k, "int", k, k)), api.OK)
	}
	// A result's variable need not be one of the params.
	checks(t, funcs(sig("a", "*", "int")), api.OK)
}

func TestP5_1CheckSize(t *testing.T) {
	for n := range api.MaxLines + 3 {
		for m := range api.MaxLines + 3 {
			want := api.OK
			if n+m > api.MaxLines {
				want = api.ErrSize
			}
			checks(t, faceOf(n, m), want)
		}
	}
	checks(t, api.Face{Types: make([]api.Known, api.MaxLines+1)}, api.ErrSize)
	checks(t, api.Face{Funcs: make([]api.Sig, api.MaxLines+1)}, api.ErrSize)
	checks(t, api.Face{Types: make([]api.Known, 1<<16), Funcs: make([]api.Sig, 1<<16)}, api.ErrSize)
	checks(t, api.Face{Types: make([]api.Known, api.MaxLines)}, api.ErrForm)
	checks(t, api.Face{Funcs: make([]api.Sig, api.MaxLines)}, api.ErrForm)
}

func TestP5_1CheckNames(t *testing.T) {
	for _, s := range idents() {
		checks(t, types(known(s, "int")), api.OK)
		checks(t, funcs(sig(s, "int")), api.OK)
	}
	for _, s := range noIdents() {
		checks(t, types(known(s, "int")), api.ErrForm)
		checks(t, funcs(sig(s, "int")), api.ErrForm)
		checks(t, types(known("a", "int"), known(s, "int")), api.ErrForm)
		checks(t, funcs(sig("a", "int"), sig(s, "int")), api.ErrForm)
	}
}

func TestP5_1CheckTypes(t *testing.T) {
	for _, k := range append(noKinds(), open()...) {
		checks(t, types(known("a", k)), api.ErrForm)
		checks(t, types(known("a", "int"), known("b", k)), api.ErrForm)
		checks(t, types(known("a", k), known("b", "int")), api.ErrForm)
	}
}

func TestP5_1CheckFuncs(t *testing.T) {
	for _, k := range noKinds() {
		checks(t, funcs(sig("a", k)), api.ErrForm)
		checks(t, funcs(sig("a", "int", k)), api.ErrForm)
		checks(t, funcs(sig("a", "int", k, "int")), api.ErrForm)
		checks(t, funcs(sig("a", "int", "int", "*", k)), api.ErrForm)
		checks(t, funcs(sig("a", "int"), sig("b", k)), api.ErrForm)
		checks(t, funcs(sig("a", "int"), sig("b", "int", k)), api.ErrForm)
	}
}

func TestP5_1CheckParams(t *testing.T) {
	for n := range 3 * api.MaxArgs {
		want := api.OK
		if n > api.MaxArgs {
			want = api.ErrForm
		}
		checks(t, funcs(sig("a", "int", slices.Repeat([]string{"*"}, n)...)), want)
		checks(t, funcs(sig("a", "int"), sig("b", "*", slices.Repeat([]string{"int"}, n)...)), want)
	}
	checks(t, funcs(sig("a", "int", make([]string, 1<<16)...)), api.ErrForm)
}

func TestP5_1CheckOrder(t *testing.T) {
	l := idents()
	for i, a := range l {
		for j, b := range l {
			want := api.OK
			if i >= j {
				want = api.ErrOrder
			}
			checks(t, types(known(a, "int"), known(b, "text")), want)
			checks(t, funcs(sig(a, "int"), sig(b, "text")), want)
			// A type and a function may share a name, and have no order among each other.
			checks(t, api.Face{Types: []api.Known{known(a, "int")}, Funcs: []api.Sig{sig(b, "int")}}, api.OK)
		}
	}
	checks(t, types(known("a", "int"), known("c", "int"), known("b", "int")), api.ErrOrder)
	checks(t, funcs(sig("a", "int"), sig("c", "int"), sig("b", "int")), api.ErrOrder)
	checks(t, types(known("b", "int"), known("a", "int"), known("c", "int")), api.ErrOrder)
	checks(t, funcs(sig("b", "int"), sig("a", "int"), sig("c", "int")), api.ErrOrder)
}

// One by one: the first one with which something is wrong is told, of types ahead of functions.
func TestP5_1CheckOrderOfErrors(t *testing.T) {
	checks(t, types(known("b", "int"), known("a", "x")), api.ErrForm)
	checks(t, types(known("b", "int"), known("a", "int"), known("c", "x")), api.ErrOrder)
	checks(t, types(known("b", "int"), known("a", "int"), known("int", "int")), api.ErrOrder)
	checks(t, types(known("c", "x"), known("b", "int"), known("a", "int")), api.ErrForm)
	checks(t, funcs(sig("b", "int"), sig("a", "x")), api.ErrForm)
	checks(t, funcs(sig("b", "int"), sig("a", "int", "x")), api.ErrForm)
	checks(t, funcs(sig("b", "int"), sig("a", "int"), sig("c", "x")), api.ErrOrder)
	checks(t, funcs(sig("b", "int"), sig("a", "int"), sig("c", "int", make([]string, 9)...)), api.ErrOrder)
	low, wrong := []api.Known{known("b", "int"), known("a", "int")}, []api.Known{known("a", "x")}
	checks(t, api.Face{Types: low, Funcs: []api.Sig{sig("a", "x")}}, api.ErrOrder)
	checks(t, api.Face{Types: wrong, Funcs: []api.Sig{sig("b", "int"), sig("a", "int")}}, api.ErrForm)
	checks(t, api.Face{Types: low[:1], Funcs: []api.Sig{sig("b", "int"), sig("a", "int")}}, api.ErrOrder)
}

// wrong: what Check is to tell of a face that is not too great, the words of the promise one behind the other.
func wrong(f api.Face) api.Errno {
	for i, k := range f.Types {
		if !tree.Ident(k.Name) || kind.Check(k.Is) != api.OK || kind.Open(k.Is) {
			return api.ErrForm
		}
		if i > 0 && k.Name <= f.Types[i-1].Name {
			return api.ErrOrder
		}
	}
	for i, g := range f.Funcs {
		for _, p := range append(slices.Clone(g.Params), g.Result) {
			if !tree.Ident(g.Name) || kind.Check(p) != api.OK {
				return api.ErrForm
			}
		}
		if i > 0 && g.Name <= f.Funcs[i-1].Name {
			return api.ErrOrder
		}
	}
	return api.OK
}

func TestP5_1CheckOfDrawnFaces(t *testing.T) {
	d := draw(51)
	told := map[api.Errno]int{}
	for range 20000 {
		f := d.face()
		checks(t, f, wrong(f))
		told[wrong(f)]++
	}
	if told[api.OK] < 500 || told[api.ErrForm] < 500 || told[api.ErrOrder] < 500 {
		t.Errorf("too few of some: %v", told)
	}
}

func TestP5_5CheckImportsTakes(t *testing.T) {
	checksImports(t, api.OK)
	checksImports(t, api.OK, []api.Import{}...)
	checksImports(t, api.OK, missing("a"))
	checksImports(t, api.OK, there("a", api.Face{}))
	checksImports(t, api.OK, there("a", some()))
	checksImports(t, api.OK, there("a", some()), missing("b"), there("c", some()), there("d", api.Face{}), missing("e"))
	checksImports(t, api.OK, api.Import{Name: "a", Face: api.Face{Types: []api.Known{}, Funcs: make([]api.Sig, 0, 5)}})
}

func TestP5_5CheckImportsSize(t *testing.T) {
	for n := range 2 * api.MaxLines {
		var l []api.Import
		for _, s := range names(n) {
			l = append(l, missing(s))
		}
		want := api.OK
		if n > api.MaxLines {
			want = api.ErrSize
		}
		checksImports(t, want, l...)
	}
	checksImports(t, api.ErrForm, make([]api.Import, api.MaxLines)...)
	checksImports(t, api.ErrSize, make([]api.Import, api.MaxLines+1)...)
	checksImports(t, api.ErrSize, make([]api.Import, 1<<16)...)
	// Each face is as great as it may be alone.
	checksImports(t, api.OK, there("a", faceOf(api.MaxLines, 0)), there("b", faceOf(0, api.MaxLines)))
}

func TestP5_5CheckImportsNames(t *testing.T) {
	for _, s := range idents() {
		checksImports(t, api.OK, missing(s))
		checksImports(t, api.OK, there(s, some()))
	}
	for _, s := range noIdents() {
		checksImports(t, api.ErrForm, missing(s))
		checksImports(t, api.ErrForm, there(s, some()))
		checksImports(t, api.ErrForm, missing("a"), missing(s))
	}
}

func TestP5_5CheckImportsFaces(t *testing.T) {
	for _, c := range []struct {
		f    api.Face
		want api.Errno
	}{
		{faceOf(api.MaxLines, 1), api.ErrSize},
		{types(known("a", "*")), api.ErrForm},
		{funcs(sig("a", "x")), api.ErrForm},
		{types(known("b", "int"), known("a", "int")), api.ErrOrder},
		{funcs(sig("a", "int"), sig("a", "int")), api.ErrOrder},
	} {
		checksImports(t, c.want, there("a", c.f))
		checksImports(t, c.want, there("a", some()), there("b", c.f), missing("c"))
		// What is wrong with the face is told ahead of that there should be none, and of the order.
		checksImports(t, c.want, api.Import{Name: "a", Face: c.f})
		checksImports(t, c.want, missing("b"), there("a", c.f))
		// The name is asked ahead of the face.
		checksImports(t, api.ErrForm, there("int", c.f))
	}
}

func TestP5_5CheckImportsNotThere(t *testing.T) {
	for _, f := range []api.Face{types(known("a", "int")), funcs(sig("a", "int")), some(), faceOf(0, api.MaxLines)} {
		checksImports(t, api.ErrForm, api.Import{Name: "a", Face: f})
		checksImports(t, api.ErrForm, there("a", f), api.Import{Name: "b", Face: f})
		// Told ahead of the order.
		checksImports(t, api.ErrForm, missing("b"), api.Import{Name: "a", Face: f})
		checksImports(t, api.OK, there("a", f))
	}
}

func TestP5_5CheckImportsOrder(t *testing.T) {
	l := idents()
	for i, a := range l {
		for j, b := range l {
			want := api.OK
			if i >= j {
				want = api.ErrOrder
			}
			checksImports(t, want, missing(a), missing(b))
			checksImports(t, want, there(a, some()), missing(b))
			checksImports(t, want, missing(a), there(b, some()))
		}
	}
	checksImports(t, api.ErrOrder, missing("a"), missing("c"), missing("b"))
	checksImports(t, api.ErrOrder, missing("b"), missing("a"), missing("int"))
	checksImports(t, api.ErrOrder, missing("b"), missing("a"), there("c", types(known("a", "*"))))
}

func TestListsHandedInStayAsTheyWere(t *testing.T) {
	room := append(make([]api.Known, 0, 9), some().Types...)
	params := append(make([]string, 0, 9), "*", "int")
	f := api.Face{Types: room, Funcs: append(make([]api.Sig, 0, 9), sig("f", "*", params...))}
	face.Check(f)
	face.Copy(f)
	face.Same(f, f)
	face.Type(f, "a")
	face.Func(f, "f")
	face.Show(f)
	face.CheckImports([]api.Import{there("a", f)})
	want := api.Face{Types: some().Types, Funcs: []api.Sig{sig("f", "*", "*", "int")}}
	if !equal(f, want) {
		t.Errorf("it is %v", f)
	}
	if slices.ContainsFunc(room[len(room):9], func(k api.Known) bool { return k != api.Known{} }) ||
		slices.ContainsFunc(params[len(params):9], func(s string) bool { return s != "" }) ||
		!equal(api.Face{Funcs: f.Funcs[1:9]}, api.Face{Funcs: make([]api.Sig, 8)}) {
		t.Errorf("the spare room was written to")
	}
}
