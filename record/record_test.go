package record_test

import (
	"reflect"
	"slices"
	"strings"
	"testing"

	"scullery/api"
	"scullery/record"
)

func TestP11_1CheckTakes(t *testing.T) {
	checks(t, named("a"), api.OK)
	checks(t, api.Record{Name: "a", Imports: []api.Import{}, Face: api.Face{Types: []api.Known{}, Funcs: []api.Sig{}}, Diags: []api.Diag{}}, api.OK)
	checks(t, whole(), api.OK)
	// Nothing is asked of the source, nor must it fit what came of it.
	for _, s := range []string{"oh", "use use", "\x00\xff", "\n\n"} {
		checks(t, named("a", source(s)), api.OK)
		checks(t, named("a", source(s), showing(some()), wrong(at("b", api.Twice), at("a", api.Count), at("b", api.Twice))), api.OK)
	}
	// A module may use one of its own name, as far as the record can tell.
	checks(t, named("a", using(there("a", some()))), api.OK)
}

func TestP11_1CheckNames(t *testing.T) {
	for _, s := range idents() {
		checks(t, named(s), api.OK)
	}
	checks(t, named(""), api.ErrForm)
	for _, s := range noIdents() {
		checks(t, named(s), api.ErrForm)
	}
}

func TestP11_1CheckSize(t *testing.T) {
	for _, n := range []int{0, 1, api.MaxSource - 1, api.MaxSource} {
		checks(t, named("a", source(strings.Repeat("\xff", n))), api.OK)
	}
	for _, n := range []int{api.MaxSource + 1, 1<<16 - 1, 1 << 16, 1<<16 + 1, 1 << 20} {
		checks(t, named("a", source(strings.Repeat("a", n))), api.ErrSize)
	}
	for n := range 2 * api.MaxLines {
		want := api.OK
		if n > api.MaxLines {
			want = api.ErrSize
		}
		checks(t, named("a", wrong(slices.Repeat([]api.Diag{at("b", api.Twice)}, n)...)), want)
	}
	for _, n := range []int{256, 257, 1 << 16} {
		checks(t, named("a", wrong(slices.Repeat([]api.Diag{at("", api.Syntax)}, n)...)), api.ErrSize)
	}
	// Bytes are counted, not what they stand for.
	checks(t, named("a", source(strings.Repeat("é", api.MaxSource/2))), api.OK)
	checks(t, named("a", source(strings.Repeat("é", api.MaxSource/2)+"a")), api.ErrSize)
}

func TestP11_1CheckImports(t *testing.T) {
	checks(t, named("a", using(gone(api.MaxLines)...)), api.OK)
	checks(t, named("a", using(gone(api.MaxLines+1)...)), api.ErrSize)
	checks(t, named("a", using(missing("b"), there("c", some()))), api.OK)
	checks(t, named("a", using(missing("b"), there("b", some()))), api.ErrOrder)
	checks(t, named("a", using(missing("c"), missing("b"))), api.ErrOrder)
	checks(t, named("a", using(missing("int"))), api.ErrForm)
	checks(t, named("a", using(api.Import{Name: "b", Face: some()})), api.ErrForm)
	checks(t, named("a", using(there("b", great(api.MaxLines)))), api.OK)
	checks(t, named("a", using(there("b", great(api.MaxLines+1)))), api.ErrSize)
	checks(t, named("a", using(there("b", api.Face{Types: known("a", "*")}))), api.ErrForm)
	checks(t, named("a", using(there("b", api.Face{Types: known("b", "int", "a", "int")}))), api.ErrOrder)
}

func TestP11_1CheckFace(t *testing.T) {
	checks(t, named("a", showing(great(api.MaxLines))), api.OK)
	checks(t, named("a", showing(great(api.MaxLines+1))), api.ErrSize)
	checks(t, named("a", showing(api.Face{Types: known("a", "x")})), api.ErrForm)
	checks(t, named("a", showing(api.Face{Types: known("a", "[*]")})), api.ErrForm)
	checks(t, named("a", showing(api.Face{Types: known("a", "int", "a", "int")})), api.ErrOrder)
	checks(t, named("a", showing(api.Face{Funcs: []api.Sig{takes("f", make([]string, 3)...)}})), api.ErrForm)
	checks(t, named("a", showing(api.Face{Funcs: []api.Sig{takes("f", slices.Repeat([]string{"int"}, api.MaxArgs+2)...)}})), api.ErrForm)
	checks(t, named("a", showing(api.Face{Funcs: []api.Sig{takes("g", "int"), takes("f", "int")}})), api.ErrOrder)
}

func TestP11_1CheckDiags(t *testing.T) {
	for _, s := range append(idents(), "") {
		checks(t, named("a", wrong(at(s, api.NoName))), api.OK)
	}
	for _, s := range noIdents() {
		checks(t, named("a", wrong(at(s, api.NoName))), api.ErrForm)
		checks(t, named("a", wrong(at("b", api.NoName), at(s, api.NoName))), api.ErrForm)
	}
	for code := -300; code < 600; code++ {
		want := api.ErrForm
		if code >= 1 && code <= 8 {
			want = api.OK
		}
		checks(t, named("a", wrong(at("", code))), want)
		checks(t, named("a", wrong(at("b", code), at("b", api.Count))), want)
		checks(t, named("a", wrong(at("b", api.Count), at("b", code))), want)
	}
	for _, code := range []int{1<<63 - 1, -1 << 63, 1<<32 + 1, 1<<16 + 1, -1<<16 + 1} {
		checks(t, named("a", wrong(at("b", code))), api.ErrForm)
	}
	checks(t, named("a", wrong(make([]api.Diag, 1)...)), api.ErrForm)
}

// What is wrong first is told: each change is told ahead of all that follow.
func TestP11_1CheckOrderOfErrors(t *testing.T) {
	long := source(strings.Repeat("a", api.MaxSource+1))
	many := wrong(make([]api.Diag, api.MaxLines+1)...)
	faces := showing(api.Face{Types: known("b", "int", "a", "int")})
	none := wrong(at("int", 0))
	checks(t, named("int", long), api.ErrForm)
	checks(t, named("", many), api.ErrForm)
	checks(t, named("int", using(gone(api.MaxLines+1)...)), api.ErrForm)
	checks(t, named("int", faces, none), api.ErrForm)
	for _, size := range []func(*api.Record){long, many} {
		checks(t, named("a", using(missing("b"), missing("a")), size), api.ErrSize)
		checks(t, named("a", using(missing("int")), size), api.ErrSize)
		checks(t, named("a", faces, size), api.ErrSize)
	}
	checks(t, named("a", none, long), api.ErrSize)
	checks(t, named("a", using(gone(api.MaxLines+1)...), faces, none), api.ErrSize)
	checks(t, named("a", using(missing("int")), faces), api.ErrForm)
	checks(t, named("a", using(missing("b"), missing("a")), showing(great(api.MaxLines+1)), none), api.ErrOrder)
	checks(t, named("a", faces, none), api.ErrOrder)
	checks(t, named("a", showing(great(api.MaxLines+1)), none), api.ErrSize)
}

// records of many forms, some of which may not be.
func records() []api.Record {
	return []api.Record{
		{}, named("a"), named("int"), whole(),
		named("a", source("x")), named("a", source(strings.Repeat("x", 1<<16))),
		named("a", using(missing("b"), missing("a"), api.Import{Name: "int", Face: some()})),
		named("a", using(gone(40)...)), named("a", using(make([]api.Import, 40)...)),
		named("a", showing(some())), named("a", showing(great(30))),
		named("a", showing(api.Face{Types: make([]api.Known, 30), Funcs: make([]api.Sig, 30)})),
		named("a", showing(api.Face{Funcs: []api.Sig{{Name: "x", Params: make([]string, 300)}}})),
		named("a", wrong(make([]api.Diag, 300)...)),
		named("a", wrong(at("x y", -1), at("", 1<<40), at("int", 0))),
	}
}

func TestP11_1Copy(t *testing.T) {
	for _, r := range records() {
		if c := record.Copy(r); !equal(c, r) {
			t.Errorf("Copy of %.300v: %.300v", r, c)
		}
	}
}

func is(t *testing.T, r api.Record, source string, l []api.Import, want bool) {
	t.Helper()
	if record.Is(r, source, l) != want {
		t.Errorf("Is of %.300v, %.50q and %.300v: %v", r, source, l, !want)
	}
}

func TestP11_2Is(t *testing.T) {
	for i, r := range records() {
		is(t, r, r.Source, record.Copy(r).Imports, true)
		is(t, r, r.Source+"x", r.Imports, false)
		is(t, r, r.Source, append(slices.Clone(r.Imports), missing("zz")), false)
		is(t, r, r.Source, append([]api.Import{missing("aa")}, r.Imports...), false)
		for j, s := range records() {
			if r.Source == s.Source && len(r.Imports)+len(s.Imports) == 0 || i == j {
				is(t, r, s.Source, s.Imports, true)
			} else {
				is(t, r, s.Source, s.Imports, false)
			}
		}
	}
	is(t, whole(), "", whole().Imports, false)
	is(t, whole(), whole().Source, nil, false)
}

// Neither the name nor what came of it is asked, nor whether it may be.
func TestP11_2IsAsksNothingElse(t *testing.T) {
	r := whole()
	for _, change := range []func(*api.Record){
		func(r *api.Record) { r.Name = "" },
		func(r *api.Record) { r.Name = "other" },
		showing(api.Face{}), showing(great(30)), wrong(), wrong(at("x y", 0)),
	} {
		c := whole()
		change(&c)
		is(t, c, r.Source, r.Imports, true)
	}
	low := []api.Import{missing("b"), {Name: "int", Face: some()}, missing("a")}
	is(t, named("a", using(low...)), "", slices.Clone(low), true)
}

func TestP11_2IsOneByOne(t *testing.T) {
	a, b := missing("a"), missing("b")
	is(t, named("f", using(a, b)), "", []api.Import{a, b}, true)
	is(t, named("f", using(a, b)), "", []api.Import{b, a}, false)
	is(t, named("f", using(a, b)), "", []api.Import{a, a}, false)
	is(t, named("f", using(a, b)), "", []api.Import{b, b}, false)
	is(t, named("f", using(a)), "", []api.Import{a, a}, false)
	is(t, named("f", using(a, a)), "", []api.Import{a}, false)
}

// Lists without elements may be nil or not.
func TestP11_2IsWithoutElements(t *testing.T) {
	bare := api.Import{Name: "a", There: true, Face: api.Face{Types: []api.Known{}, Funcs: []api.Sig{}}}
	is(t, named("f", using([]api.Import{}...)), "", nil, true)
	is(t, named("f"), "", []api.Import{}, true)
	is(t, named("f", using(bare)), "", []api.Import{there("a", api.Face{})}, true)
	is(t, named("f", using(there("a", api.Face{}))), "", []api.Import{bare}, true)
	is(t, named("f", using(missing("a"))), "", []api.Import{there("a", api.Face{})}, false)
	is(t, named("f", using(there("a", api.Face{}))), "", []api.Import{missing("a")}, false)
}

// Each part of an import that is another one makes it another record.
func TestP11_2IsOfOneChange(t *testing.T) {
	for i, change := range []func(l []api.Import){
		func(l []api.Import) { l[0].Name = "x" },
		func(l []api.Import) { l[2].Name = "" },
		func(l []api.Import) { l[0].There = false },
		func(l []api.Import) { l[1].There = true },
		func(l []api.Import) { l[1].Face = some() },
		func(l []api.Import) { l[2].Face = api.Face{} },
		func(l []api.Import) { l[2].Face.Types[0].Name = "x" },
		func(l []api.Import) { l[2].Face.Types[2].Is = "x" },
		func(l []api.Import) { l[2].Face.Types = l[2].Face.Types[:2] },
		func(l []api.Import) { l[2].Face.Funcs[0].Name = "x" },
		func(l []api.Import) { l[2].Face.Funcs[2].Result = "x" },
		func(l []api.Import) { l[2].Face.Funcs[1].Params[1] = "int" },
		func(l []api.Import) { l[2].Face.Funcs[1].Params = l[2].Face.Funcs[1].Params[:1] },
		func(l []api.Import) { l[0], l[1] = l[1], l[0] },
	} {
		r, l := whole(), whole().Imports
		change(l)
		if record.Is(r, r.Source, l) {
			t.Errorf("change %d: it is", i)
		}
		r.Imports = l
		is(t, r, r.Source, whole().Imports, false)
		is(t, r, r.Source, l, true)
	}
}

func TestP11_3Encode(t *testing.T) {
	encodes(t, named("a"), "\x00\x01a\x00\x00\x00\x00\x00\x00")
	encodes(t, named("abcdefgh", source("x\n\x00")), "\x00\x08abcdefgh\x00\x03x\n\x00\x00\x00\x00\x00")
	encodes(t, named("a", using(missing("b"))), "\x00\x01a\x00\x00\x01\x00\x01b\x00\x00\x00\x00\x00\x00")
	encodes(t, named("a", using(there("b", api.Face{}), missing("cc"))), "\x00\x01a\x00\x00\x02\x00\x01b\x01\x00\x00\x00\x02cc\x00\x00\x00\x00\x00\x00")
	encodes(t, named("a", showing(api.Face{Types: known("b", "int", "c", "[int]")})), "\x00\x01a\x00\x00\x00\x02\x00\x01b\x00\x03int\x00\x01c\x00\x05[int]\x00\x00")
	encodes(t, named("a", showing(api.Face{Funcs: []api.Sig{takes("f", "int"), takes("g", "*", "text", "[*]")}})),
		"\x00\x01a\x00\x00\x00\x00\x02\x00\x01f\x00\x00\x03int\x00\x01g\x02\x00\x01*\x00\x04text\x00\x03[*]\x00")
	encodes(t, named("a", wrong(at("", api.Syntax), at("zz", api.Mismatch))), "\x00\x01a\x00\x00\x00\x00\x00\x02\x00\x00\x01\x00\x02zz\x08")
	encodes(t, whole(), "\x00\x04file\x00\x11use m\nuse gone\n\x00\xff\x03"+
		"\x00\x04bare\x01\x00\x00\x00\x04gone\x00\x00\x00\x00\x01m\x01"+
		"\x03\x00\x01a\x00\x03int\x00\x01b\x00\x06[text]\x00\x01d\x00\x07[[int]]"+
		"\x03\x00\x01a\x00\x00\x03int\x00\x01c\x02\x00\x01*\x00\x03[*]\x00\x01*\x00\x01d\x01\x00\x04text\x00\x06[text]"+
		"\x01\x00\x02aa\x00\x04text\x01\x00\x01f\x02\x00\x01*\x00\x03int\x00\x03[*]"+
		"\x04\x00\x00\x01\x00\x04gone\x03\x00\x01f\x08\x00\x01f\x04")
}

// The higher byte of a length is the first one.
func TestP11_3EncodeLengths(t *testing.T) {
	for n := range api.MaxSource + 1 {
		s := strings.Repeat("b", n)
		encodes(t, named("a", source(s)), "\x00\x01a"+string([]byte{byte(n / 256), byte(n % 256)})+s+"\x00\x00\x00\x00")
	}
	for _, n := range []int{0, 125, 126, 127, 254, 298} {
		s := lists(n, "text")
		length := string([]byte{byte(len(s) / 256), byte(len(s) % 256)})
		encodes(t, named("a", showing(api.Face{Types: known("b", s)})), "\x00\x01a\x00\x00\x00\x01\x00\x01b"+length+s+"\x00\x00")
	}
}

func TestP11_3EncodeCodes(t *testing.T) {
	for code := api.Syntax; code <= api.Mismatch; code++ {
		encodes(t, named("a", wrong(at("f", code))), "\x00\x01a\x00\x00\x00\x00\x00\x01\x00\x01f"+string([]byte{byte(code)}))
	}
}

func TestP11_3EncodeTheMost(t *testing.T) {
	r := named("a", wrong(slices.Repeat([]api.Diag{at("f", api.Twice)}, api.MaxLines)...))
	encodes(t, r, "\x00\x01a\x00\x00\x00\x00\x00\x18"+strings.Repeat("\x00\x01f\x04", api.MaxLines))
	r = named("a", using(gone(api.MaxLines)...))
	encodes(t, r, bytesOf(r))
	// There is no bound of all the bytes: those that no log takes are told, but not taken back.
	var l []api.Import
	for _, s := range names(api.MaxLines) {
		l = append(l, there(s, great(api.MaxLines)))
	}
	r = named("a", using(l...), showing(great(api.MaxLines)))
	encodes(t, r, bytesOf(r))
	refuses(t, bytesOf(r), api.ErrSize)
}

func TestP11_4DecodeSize(t *testing.T) {
	r := named("a", showing(great(11)))
	for _, n := range []int{api.MaxLog - 1, api.MaxLog} {
		r.Source = ""
		r.Source = strings.Repeat("b", n-len(bytesOf(r)))
		checks(t, r, api.OK)
		decodes(t, bytesOf(r), r, api.OK)
	}
	r.Source += "b"
	checks(t, r, api.OK)
	refuses(t, bytesOf(r), api.ErrSize)
	// Ahead of all that is wrong with them.
	for _, s := range []string{"\x00", "\xff", "\x00\x01a\x00\x00\x00\x00\x00\x00\x00", bytesOf(whole())} {
		refuses(t, strings.Repeat(s, api.MaxLog+1)[:api.MaxLog+1], api.ErrSize)
		refuses(t, strings.Repeat(s, api.MaxLog+1), api.ErrSize)
	}
	refuses(t, strings.Repeat("\x00", api.MaxLog), api.ErrForm)
	refuses(t, strings.Repeat("\xff", api.MaxLog), api.ErrShort)
	refuses(t, strings.Repeat("\x01", api.MaxLog), api.ErrForm)
}

func TestP11_4DecodeShort(t *testing.T) {
	refuses(t, "", api.ErrShort)
	for _, r := range []api.Record{named("a"), whole(), named("b", source(strings.Repeat("x", 300))), named("c", using(there("m", some())), showing(some()))} {
		s := bytesOf(r)
		for n := range len(s) {
			refuses(t, s[:n], api.ErrShort)
		}
		decodes(t, s, r, api.OK)
	}
	// What stands ahead may be none: that is told only of what is there as a whole.
	for _, s := range []string{"\x00", "\x00\x03int", "\x00\x00\x00\x00", "\x00\x03int\xff\xff", "\xff\xff", "\x00\x01a\x00\x00\xff", "\x00\x01a\x00\x00\x00\xff", "\x00\x01a\x00\x00\x00\x00\xff", "\x00\x01a\x00\x00\x00\x00\x00\xff", "\x00\x01a\x00\x00\x00\x00\x01\x00\x01f\xff"} {
		refuses(t, s, api.ErrShort)
	}
	// One more than there are, of each thing that is counted.
	for _, s := range []string{"\x00\x02a", "\x00\x01a\x00\x01", "\x00\x01a\x00\x00\x01", "\x00\x01a\x00\x00\x00\x01\x00", "\x00\x01a\x00\x00\x00\x00\x01", "\x00\x01a\x00\x00\x00\x00\x00\x01", "\x00\x01a\x00\x00\x00\x00\x01\x00\x01f\x01\x00\x03int"} {
		refuses(t, s, api.ErrShort)
	}
}

// Whether an import is there is 0 or 1; else that is told at once, whatever follows.
func TestP11_4DecodeThere(t *testing.T) {
	head, tail := "\x00\x01a\x00\x00\x01\x00\x01b", "\x00\x00\x00\x00\x00"
	decodes(t, head+"\x00"+tail, named("a", using(missing("b"))), api.OK)
	decodes(t, head+"\x01"+tail, named("a", using(there("b", api.Face{}))), api.OK)
	refuses(t, head, api.ErrShort)
	refuses(t, head+"\x00", api.ErrShort)
	refuses(t, head+"\x01", api.ErrShort)
	for n := 2; n < 256; n++ {
		for _, more := range []string{tail, "", "\xff", tail + "\x00"} {
			refuses(t, head+string([]byte{byte(n)})+more, api.ErrForm)
		}
	}
	// Of the second one, and ahead of what Check would refuse, but not ahead of what is short before it.
	refuses(t, "\x00\x01a\x00\x00\x02\x00\x01c\x00\x00\x00\x00\x01b\x02", api.ErrForm)
	refuses(t, "\x00\x01a\x00\x00\x02\x00\x01c\x00\x00\x00\x00\x02\x02", api.ErrShort)
	long := "\x00\x01a\xff\xff" + strings.Repeat("b", 1<<16-1)
	refuses(t, long[:api.MaxLog], api.ErrShort)
	refuses(t, "\x00\x01a\x07\xd0"+strings.Repeat("b", 2000)+"\x01\x00\x01b\x02", api.ErrForm)
	refuses(t, "\x00\x01a\x07\xd0"+strings.Repeat("b", 2000)+"\x01\x00\x01b", api.ErrShort)
	refuses(t, "\x00\x01a\x07\xd0"+strings.Repeat("b", 2000)+"\x01\x00\x01b\x01\x00\x00\x00\x00\x00", api.ErrSize)
}

func TestP11_4DecodeLeft(t *testing.T) {
	for _, r := range []api.Record{named("a"), whole(), named("int"), named("a", source(strings.Repeat("b", api.MaxSource+1))), named("a", using(missing("b"), missing("a")))} {
		for _, more := range []string{"\x00", "\x01", "\xff", "a", bytesOf(r)} {
			refuses(t, bytesOf(r)+more, api.ErrForm)
		}
	}
}

// What Check refuses is told last.
func TestP11_4DecodeChecks(t *testing.T) {
	for _, c := range []struct {
		r    api.Record
		want api.Errno
	}{
		{named(""), api.ErrForm},
		{named("int"), api.ErrForm},
		{named(strings.Repeat("a", 9)), api.ErrForm},
		{named(strings.Repeat("a", 1<<15)), api.ErrForm},
		{named("a", source(strings.Repeat("b", api.MaxSource+1))), api.ErrSize},
		{named("a", source(strings.Repeat("b", 50000))), api.ErrSize},
		{named("a", wrong(slices.Repeat([]api.Diag{at("b", 1)}, api.MaxLines+1)...)), api.ErrSize},
		{named("a", wrong(slices.Repeat([]api.Diag{at("b", 1)}, 255)...)), api.ErrSize},
		{named("a", using(gone(api.MaxLines+1)...)), api.ErrSize},
		{named("a", using(gone(255)...)), api.ErrSize},
		{named("a", using(missing("b"), missing("b"))), api.ErrOrder},
		{named("a", using(missing(""))), api.ErrForm},
		{named("a", using(api.Import{Name: "b", Face: some()})), api.ErrForm},
		{named("a", using(there("b", api.Face{Types: make([]api.Known, 255)}))), api.ErrSize},
		{named("a", using(there("b", api.Face{Types: known("a", "*")}))), api.ErrForm},
		{named("a", showing(api.Face{Types: known("b", "int", "a", "int")})), api.ErrOrder},
		{named("a", showing(api.Face{Types: make([]api.Known, 255), Funcs: make([]api.Sig, 255)})), api.ErrSize},
		{named("a", showing(api.Face{Funcs: []api.Sig{{Name: "f", Params: slices.Repeat([]string{"int"}, 255), Result: "int"}}})), api.ErrForm},
		{named("a", showing(api.Face{Funcs: []api.Sig{takes("f", "int", "x")}})), api.ErrForm},
		{named("a", wrong(at("b", 0))), api.ErrForm},
		{named("a", wrong(at("b", 9))), api.ErrForm},
		{named("a", wrong(at("b", 255))), api.ErrForm},
		{named("a", wrong(at("int", 1))), api.ErrForm},
	} {
		checks(t, c.r, c.want)
		refuses(t, bytesOf(c.r), c.want)
	}
}

// withRoom: a record with something in the spare room of all lists.
func withRoom(r api.Record) api.Record {
	r = plain(r).(api.Record)
	r.Imports = append(r.Imports, missing("x"), missing("y"))[:len(r.Imports)]
	r.Diags = append(r.Diags, at("x", 3), at("y", 4))[:len(r.Diags)]
	r.Face = roomOf(r.Face)
	for i := range r.Imports {
		r.Imports[i].Face = roomOf(r.Imports[i].Face)
	}
	return r
}

func roomOf(f api.Face) api.Face {
	f.Types = append(f.Types, known("x", "y", "z", "y")...)[:len(f.Types)]
	for i, g := range f.Funcs {
		f.Funcs[i].Params = append(g.Params, "x", "y")[:len(g.Params)]
	}
	f.Funcs = append(f.Funcs, takes("x", "y"), takes("z", "y"))[:len(f.Funcs)]
	return f
}

// spare: what is in all lists of a record, spare room too.
func spare(r api.Record) []any {
	all := []any{r.Name, r.Source, slices.Clone(r.Imports[:cap(r.Imports)]), slices.Clone(r.Diags[:cap(r.Diags)])}
	faces := []api.Face{r.Face}
	for _, i := range r.Imports {
		faces = append(faces, i.Face)
	}
	for _, f := range faces {
		all = append(all, slices.Clone(f.Types[:cap(f.Types)]), slices.Clone(f.Funcs[:cap(f.Funcs)]))
		for _, g := range f.Funcs {
			all = append(all, slices.Clone(g.Params[:cap(g.Params)]))
		}
	}
	return all
}

// What is handed in stays as it was, spare room too, and is answered the same again.
func TestListsHandedInStayAsTheyWere(t *testing.T) {
	d := draw(115)
	for range 500 {
		r := withRoom(d.record())
		before := spare(r)
		c := record.Copy(r)
		s, _ := record.Encode(r)
		x, _ := record.Decode(s)
		record.Check(r)
		is(t, r, r.Source, r.Imports, true)
		if !reflect.DeepEqual(before, spare(r)) {
			t.Errorf("the record is now %v", r)
		}
		// What was answered may be written over, without being kept.
		for _, l := range [][]api.Import{c.Imports, x.Imports} {
			for i := range l {
				clear(l[i].Face.Types)
				clear(l[i].Face.Funcs)
			}
			clear(l[:cap(l)])
		}
		encodes(t, r, s)
		if !reflect.DeepEqual(before, spare(r)) || !equal(record.Copy(r), r) {
			t.Errorf("what came out leads back: %v", r)
		}
	}
}

func TestAnswersShareNothing(t *testing.T) {
	d := draw(116)
	for range 500 {
		r := plain(d.record()).(api.Record)
		a, b := record.Copy(r), record.Copy(r)
		s, _ := record.Encode(r)
		s2, _ := record.Encode(r)
		x, _ := record.Decode(s)
		y, _ := record.Decode(s)
		apart(t, r, a, b, s, s2, x, y)
	}
	// Lists that are handed in may share memory with each other.
	one := some()
	r := named("a", using(there("b", one), there("c", one)), showing(one))
	apart(t, plain(r), record.Copy(r))
}
