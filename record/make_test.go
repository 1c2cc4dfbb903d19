package record_test

import (
	"reflect"
	"slices"
	"strings"
	"testing"
	"unsafe"

	"scullery/api"
	"scullery/record"
)

// Short ways to write records, and what is in them.

// known: names and kinds, by turns.
func known(s ...string) []api.Known {
	var l []api.Known
	for i := 0; i < len(s); i += 2 {
		l = append(l, api.Known{Name: s[i], Is: s[i+1]})
	}
	return l
}

// takes: what a function takes, and last what it tells.
func takes(name string, s ...string) api.Sig {
	return api.Sig{Name: name, Params: s[:len(s)-1], Result: s[len(s)-1]}
}

func at(where string, code int) api.Diag { return api.Diag{Where: where, Code: code} }

// there: an import of a module with a face.
func there(name string, f api.Face) api.Import { return api.Import{Name: name, There: true, Face: f} }

// missing: an import of a module that is not there.
func missing(name string) api.Import { return api.Import{Name: name} }

// some face, with lists of all lengths.
func some() api.Face {
	return api.Face{
		Types: known("a", "int", "b", "[text]", "d", "[[int]]"),
		Funcs: []api.Sig{takes("a", "int"), takes("c", "*", "[*]", "*"), takes("d", "text", "[text]")},
	}
}

// whole record: there is something in each of its fields.
func whole() api.Record {
	return api.Record{
		Name:    "file",
		Source:  "use m\nuse gone\n\x00\xff",
		Imports: []api.Import{there("bare", api.Face{}), missing("gone"), there("m", some())},
		Face:    api.Face{Types: known("aa", "text"), Funcs: []api.Sig{takes("f", "*", "int", "[*]")}},
		Diags:   []api.Diag{at("", api.Syntax), at("gone", api.Missing), at("f", api.Mismatch), at("f", api.Twice)},
	}
}

// named: a record with this name, changed so.
func named(name string, change ...func(r *api.Record)) api.Record {
	r := api.Record{Name: name}
	for _, c := range change {
		c(&r)
	}
	return r
}

func source(s string) func(r *api.Record) { return func(r *api.Record) { r.Source = s } }

func using(l ...api.Import) func(r *api.Record) { return func(r *api.Record) { r.Imports = l } }

func showing(f api.Face) func(r *api.Record) { return func(r *api.Record) { r.Face = f } }

func wrong(l ...api.Diag) func(r *api.Record) { return func(r *api.Record) { r.Diags = l } }

// names: idents in their order, one for each number below n.
func names(n int) []string {
	var l []string
	for i := range n {
		l = append(l, "n"+string([]byte{byte('a' + i/26), byte('a' + i%26)}))
	}
	return l
}

// gone: so many imports that are not there.
func gone(n int) []api.Import {
	var l []api.Import
	for _, s := range names(n) {
		l = append(l, missing(s))
	}
	return l
}

// lists: a text within so many brackets.
func lists(n int, s string) string {
	return strings.Repeat("[", n) + s + strings.Repeat("]", n)
}

// great face: so many functions, each of which takes as many params as it may, as long as they may be.
func great(n int) api.Face {
	var f api.Face
	for _, s := range names(n) {
		f.Funcs = append(f.Funcs, takes(s, slices.Repeat([]string{lists(298, "text")}, api.MaxArgs+1)...))
	}
	return f
}

// idents: names that may be, in their order.
func idents() []string {
	return []string{"a", "a0", "a1", "aa", "ab", "abcdefgh", "b", "fun", "funcs", "ints", "texts", "uses", "z", "z9"}
}

func noIdents() []string {
	return []string{" ", "use", "type", "func", "int", "text", "A", "1", "1a", "a b", "a.b", "a_b", "*", "[a]", "é", " a", "a ", "a\n", "\x00", "\xff", "abcdefghi", strings.Repeat("a", 1<<16-1), strings.Repeat("a", 1<<16)}
}

// plain: the same value, with nil for each list that has no elements.
func plain(v any) any {
	out := deep(reflect.ValueOf(v))
	return out.Interface()
}

// deep copy of a value, in memory of its own, without spare room; lists without elements are nil.
func deep(v reflect.Value) reflect.Value {
	out := reflect.New(v.Type()).Elem()
	switch v.Kind() {
	case reflect.Struct:
		for i := range v.NumField() {
			out.Field(i).Set(deep(v.Field(i)))
		}
	case reflect.Slice:
		if v.Len() > 0 {
			out.Set(reflect.MakeSlice(v.Type(), v.Len(), v.Len()))
		}
		for i := range v.Len() {
			out.Index(i).Set(deep(v.Index(i)))
		}
	case reflect.String:
		out.SetString(strings.Clone(v.String()))
	default:
		out.Set(v)
	}
	return out
}

// equal: as reflection sees it; a list without elements may be nil or not.
func equal(a, b any) bool { return reflect.DeepEqual(plain(a), plain(b)) }

// checks: Check tells this, and what it refuses Encode refuses, too.
func checks(t *testing.T, r api.Record, want api.Errno) {
	t.Helper()
	if e := record.Check(r); e != want {
		t.Errorf("Check of %.300v: %v, want %v", r, e, want)
	}
	if s, e := record.Encode(r); e != want || want != api.OK && s != "" {
		t.Errorf("Encode of %.300v: %.300q, %v, want %v", r, s, e, want)
	}
}

// encodes: that are the bytes of the record, and it is what they are.
func encodes(t *testing.T, r api.Record, want string) {
	t.Helper()
	if s, e := record.Encode(r); s != want || e != api.OK {
		t.Errorf("Encode of %.300v: %.1000q, %v, want %.1000q", r, s, e, want)
	}
	if len(want) <= api.MaxLog {
		decodes(t, want, r, api.OK)
	}
}

func decodes(t *testing.T, s string, want api.Record, wantE api.Errno) {
	t.Helper()
	if r, e := record.Decode(s); !equal(r, want) || e != wantE {
		t.Errorf("Decode of %.300q: %.500v, %v, want %.500v, %v", s, r, e, want, wantE)
	}
}

func refuses(t *testing.T, s string, want api.Errno) {
	t.Helper()
	decodes(t, s, api.Record{}, want)
}

// draw: numbers that look drawn, the same each time.
type draw uint64

func (d *draw) n(most int) int {
	*d = *d*6364136223846793005 + 1442695040888963407
	return int(uint64(*d>>33) % uint64(most))
}

func (d *draw) of(l ...string) string { return l[d.n(len(l))] }

// names: a few that may be, in their order.
func (d *draw) names() []string {
	var l []string
	for _, s := range []string{"a", "b", "c", "abcdefgh", "m"} {
		if d.n(3) == 0 {
			l = append(l, s)
		}
	}
	slices.Sort(l)
	return l
}

func (d *draw) face() api.Face {
	var f api.Face
	for _, s := range d.names() {
		f.Types = append(f.Types, known(s, d.of("int", "text", "[int]"))...)
	}
	for _, s := range d.names() {
		f.Funcs = append(f.Funcs, takes(s, []string{"int", "*", "[*]", "text"}[d.n(4):]...))
	}
	return f
}

// imports that may be.
func (d *draw) imports() []api.Import {
	var l []api.Import
	for _, s := range d.names() {
		i := api.Import{Name: s, There: d.n(3) > 0}
		if i.There && d.n(3) > 0 {
			i.Face = d.face()
		}
		l = append(l, i)
	}
	return l
}

// record that may be.
func (d *draw) record() api.Record {
	r := named(d.of(idents()...), source(d.of("", "x", "\x00\x01", strings.Repeat("a", d.n(600)))), using(d.imports()...), showing(d.face()))
	for range d.n(4) {
		r.Diags = append(r.Diags, at(d.of(append(idents(), "")...), 1+d.n(8)))
	}
	return r
}

// span of memory.
type span struct{ from, to uintptr }

// spans: the memory of all lists within a value, spare room too, and of all texts.
func spans(v reflect.Value) []span {
	var l []span
	switch v.Kind() {
	case reflect.Struct:
		for i := range v.NumField() {
			l = append(l, spans(v.Field(i))...)
		}
	case reflect.Slice:
		if v.Cap() > 0 {
			l = append(l, span{v.Pointer(), v.Pointer() + uintptr(v.Cap())*v.Type().Elem().Size()})
		}
		for i := range v.Len() {
			l = append(l, spans(v.Index(i))...)
		}
	case reflect.String:
		if s := v.String(); s != "" {
			from := uintptr(unsafe.Pointer(unsafe.StringData(s)))
			l = append(l, span{from, from + uintptr(len(s))})
		}
	}
	return l
}

// apart: no part of the values shares memory with any other part, of its own value or of another one.
func apart(t *testing.T, values ...any) {
	t.Helper()
	var all []span
	for _, v := range values {
		all = append(all, spans(reflect.ValueOf(v))...)
	}
	slices.SortFunc(all, func(a, b span) int { return int(a.from) - int(b.from) })
	for i := 1; i < len(all); i++ {
		if all[i].from < all[i-1].to {
			t.Errorf("memory is shared among %.300v", values)
			return
		}
	}
}
