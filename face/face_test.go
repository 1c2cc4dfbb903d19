package face_test

import (
	"reflect"
	"slices"
	"strings"
	"testing"
	"unsafe"

	"scullery/api"
	"scullery/face"
)

// faces of many forms, no two of them the same; some may not be.
func faces() []api.Face {
	return []api.Face{
		{},
		types(known("a", "int")),
		types(known("b", "int")),
		types(known("a", "text")),
		types(known("a", "int"), known("b", "int")),
		types(known("b", "int"), known("a", "int")),
		types(known("a", "int"), known("a", "int")),
		types(known("", "")),
		funcs(sig("a", "int")),
		funcs(sig("b", "int")),
		funcs(sig("a", "text")),
		funcs(sig("a", "int", "int")),
		funcs(sig("a", "int", "text")),
		funcs(sig("a", "int", "int", "text")),
		funcs(sig("a", "int", "text", "int")),
		funcs(sig("a", "int", "")),
		funcs(sig("a", "int", "int,text")),
		funcs(sig("a", "int", "int, text")),
		funcs(sig("a", "int"), sig("b", "int")),
		funcs(sig("b", "int"), sig("a", "int")),
		funcs(sig("a", "int"), sig("b", "int", "int")),
		funcs(sig("a", "int", "int"), sig("b", "int")),
		funcs(sig("", "")),
		{Types: []api.Known{known("a", "int")}, Funcs: []api.Sig{sig("a", "int")}},
		{Types: []api.Known{known("a", "int")}, Funcs: []api.Sig{sig("a", "text")}},
		{Types: []api.Known{known("a", "text")}, Funcs: []api.Sig{sig("a", "int")}},
		some(),
		faceOf(30, 30),
		faceOf(31, 30),
		faceOf(30, 31),
	}
}

func TestP5_2Copy(t *testing.T) {
	for _, f := range faces() {
		if c := face.Copy(f); !equal(c, f) {
			t.Errorf("Copy of %.200v: %.200v", f, c)
		}
	}
}

func TestP5_2Same(t *testing.T) {
	for i, a := range faces() {
		for j, b := range faces() {
			if face.Same(a, b) != (i == j) {
				t.Errorf("Same of %.200v and %.200v: %v", a, b, i != j)
			}
		}
	}
}

// Nothing is asked of faces that are copied, or held against each other: they may be none.
func TestP5_2SameOfDrawnFaces(t *testing.T) {
	d := draw(52)
	same := 0
	for range 20000 {
		a, b := d.face(), d.face()
		if face.Same(a, b) != equal(a, b) {
			t.Errorf("Same of %v and %v: %v", a, b, !equal(a, b))
		}
		if equal(a, b) {
			same++
		}
		if c := face.Copy(a); !equal(a, c) || !face.Same(a, c) || !face.Same(c, a) {
			t.Errorf("Copy of %v: %v", a, c)
		}
	}
	if same < 50 {
		t.Errorf("only %d times the same", same)
	}
}

// A list without elements may be nil or not.
func TestP5_2SameWithoutElements(t *testing.T) {
	a := api.Face{Types: []api.Known{}, Funcs: []api.Sig{}}
	if !face.Same(a, api.Face{}) || !face.Same(api.Face{}, a) {
		t.Errorf("empty faces are not the same")
	}
	b, c := funcs(sig("a", "int")), funcs(sig("a", "int", []string{}...))
	b.Funcs[0].Params = nil
	if !face.Same(b, c) || !face.Same(c, b) {
		t.Errorf("functions without params are not the same")
	}
}

// Each part that is another one makes a face another one.
func TestP5_2SameOfOneChange(t *testing.T) {
	for i, change := range []func(f *api.Face){
		func(f *api.Face) { f.Types[0].Name = "x" },
		func(f *api.Face) { f.Types[2].Is = "x" },
		func(f *api.Face) { f.Types = f.Types[:2] },
		func(f *api.Face) { f.Types = f.Types[1:] },
		func(f *api.Face) { f.Types = append(f.Types, known("", "")) },
		func(f *api.Face) { f.Funcs[1].Name = "x" },
		func(f *api.Face) { f.Funcs[2].Result = "x" },
		func(f *api.Face) { f.Funcs[1].Params[0] = "x" },
		func(f *api.Face) { f.Funcs[1].Params[1] = "x" },
		func(f *api.Face) { f.Funcs[2].Params = nil },
		func(f *api.Face) { f.Funcs[0].Params = []string{""} },
		func(f *api.Face) { f.Funcs = f.Funcs[:2] },
		func(f *api.Face) { f.Funcs = append(f.Funcs, api.Sig{}) },
	} {
		f, kept := some(), some()
		c := face.Copy(f)
		change(&c)
		if face.Same(f, c) || face.Same(c, f) {
			t.Errorf("change %d: the same", i)
		}
		if !equal(f, kept) {
			t.Errorf("change %d of the copy: it is %v", i, f)
		}
	}
}

func typeIs(t *testing.T, f api.Face, name, want string, wantE api.Errno) {
	t.Helper()
	if is, e := face.Type(f, name); is != want || e != wantE {
		t.Errorf("Type %.20q of %.200v: %.40q, %v, want %.40q, %v", name, f, is, e, want, wantE)
	}
}

func funcIs(t *testing.T, f api.Face, name string, want api.Sig, wantE api.Errno) {
	t.Helper()
	if g, e := face.Func(f, name); !reflect.DeepEqual(plainSig(g), plainSig(want)) || e != wantE {
		t.Errorf("Func %.20q of %.200v: %v, %v, want %v, %v", name, f, g, e, want, wantE)
	}
}

func TestP5_3TypeAndFunc(t *testing.T) {
	for _, f := range []api.Face{some(), faceOf(24, 0), faceOf(0, 24), faceOf(12, 12), faceOf(1, 1), types(known("a", lists(298, "int"))), funcs(sig("a", lists(299, "*"), open()...))} {
		checks(t, f, api.OK)
		for _, k := range f.Types {
			typeIs(t, f, k.Name, k.Is, api.OK)
		}
		for _, g := range f.Funcs {
			funcIs(t, f, g.Name, g, api.OK)
		}
	}
}

func TestP5_3NoneOfTheName(t *testing.T) {
	for _, f := range []api.Face{{}, some(), faceOf(12, 12)} {
		for _, s := range append(noIdents(), "aa", "bb", "e", "z", "abcdefgh", "naaa", "n") {
			typeIs(t, f, s, "", api.ErrNone)
			funcIs(t, f, s, api.Sig{}, api.ErrNone)
		}
	}
	// A type is no function, and a function is no type.
	typeIs(t, some(), "c", "", api.ErrNone)
	funcIs(t, some(), "b", api.Sig{}, api.ErrNone)
}

func shows(t *testing.T, f api.Face, want string) {
	t.Helper()
	if s, e := face.Show(f); s != want || e != api.OK {
		t.Errorf("Show of %.200v: %q, %v, want %q", f, s, e, want)
	}
}

func TestP5_4Show(t *testing.T) {
	shows(t, api.Face{}, "")
	shows(t, types(known("a", "int")), "type a = int\n")
	shows(t, types(known("a", "[[text]]"), known("abcdefgh", "text")), "type a = [[text]]\ntype abcdefgh = text\n")
	shows(t, funcs(sig("f", "int")), "func f(): int\n")
	shows(t, funcs(sig("f", "*", "[*]")), "func f([*]): *\n")
	shows(t, funcs(sig("f", "text", "int", "*")), "func f(int, *): text\n")
	shows(t, funcs(sig("f", "[int]", "int", "[text]", "text"), sig("g", "text")), "func f(int, [text], text): [int]\nfunc g(): text\n")
	shows(t, some(), "type a = int\ntype b = [text]\ntype d = [[int]]\nfunc a(): int\nfunc c(*, [*]): *\nfunc d(text): [text]\n")
	shows(t, funcs(sig("f", "int", slices.Repeat([]string{"int"}, api.MaxArgs)...)), "func f(int, int, int, int, int, int, int, int): int\n")
}

func TestP5_4ShowOfTheLongest(t *testing.T) {
	long, f, want := lists(299, "*"), api.Face{}, ""
	for _, s := range names(api.MaxLines) {
		f.Funcs = append(f.Funcs, sig(s, long, slices.Repeat([]string{long}, api.MaxArgs)...))
		want += "func " + s + "(" + strings.Repeat(long+", ", api.MaxArgs-1) + long + "): " + long + "\n"
	}
	shows(t, f, want)
}

func TestP5_4ShowRefuses(t *testing.T) {
	for i, c := range []struct {
		f    api.Face
		want api.Errno
	}{
		{faceOf(api.MaxLines, 1), api.ErrSize},
		{faceOf(0, api.MaxLines+1), api.ErrSize},
		{types(known("a", "*")), api.ErrForm},
		{types(known("a", "int"), known("b", "")), api.ErrForm},
		{types(known("int", "int")), api.ErrForm},
		{types(known("b", "int"), known("a", "int")), api.ErrOrder},
		{funcs(sig("a", "x")), api.ErrForm},
		{funcs(sig("a", "int", make([]string, api.MaxArgs+1)...)), api.ErrForm},
		{funcs(sig("a", "int"), sig("a", "int")), api.ErrOrder},
	} {
		if s, e := face.Show(c.f); s != "" || e != c.want {
			t.Errorf("case %d: %q, %v, want %v", i, s, e, c.want)
		}
	}
	d := draw(54)
	for range 5000 {
		f := d.face()
		if s, e := face.Show(f); e != face.Check(f) || e != api.OK && s != "" || strings.Count(s, "\n") > len(f.Types)+len(f.Funcs) {
			t.Errorf("Show of %v: %q, %v", f, s, e)
		}
	}
}

// span of memory.
type span struct{ from, to uintptr }

// spans: the memory of all lists within a value, spare room too, and of all texts.
func spans(v reflect.Value) []span {
	var l []span
	switch v.Kind() {
	case reflect.Struct:
		for i := range v.NumField() {
			l = append(l, spans(v.Field(i))...)
		}
	case reflect.Slice:
		if v.Cap() > 0 {
			l = append(l, span{v.Pointer(), v.Pointer() + uintptr(v.Cap())*v.Type().Elem().Size()})
		}
		for i := range v.Len() {
			l = append(l, spans(v.Index(i))...)
		}
	case reflect.String:
		if s := v.String(); s != "" {
			at := uintptr(unsafe.Pointer(unsafe.StringData(s)))
			l = append(l, span{at, at + uintptr(len(s))})
		}
	}
	return l
}

// apart: no part of one value shares memory with a part of another one.
func apart(t *testing.T, values ...any) {
	t.Helper()
	for i, a := range values {
		for _, b := range values[:i] {
			for _, x := range spans(reflect.ValueOf(a)) {
				if slices.ContainsFunc(spans(reflect.ValueOf(b)), func(y span) bool { return x.from < y.to && y.from < x.to }) {
					t.Errorf("%v and %v share memory", a, b)
				}
			}
		}
	}
}

func TestAnswersShareNothing(t *testing.T) {
	f := some()
	a, b := face.Copy(f), face.Copy(f)
	g, _ := face.Func(f, "c")
	h, _ := face.Func(f, "c")
	is, _ := face.Type(f, "b")
	apart(t, f, a, b, g, h, is)
	for i := range a.Funcs {
		for j := range i {
			apart(t, a.Funcs[i].Params, a.Funcs[j].Params)
		}
	}
	// Two functions may be handed in with one list of params.
	params := []string{"int", "[*]"}
	c := face.Copy(funcs(sig("a", "int", params...), sig("b", "int", params[:1]...)))
	apart(t, params, c.Funcs[0].Params, c.Funcs[1].Params)
	g.Params[0] = "x"
	if !equal(f, some()) {
		t.Errorf("what came out leads back: %v", f)
	}
}
