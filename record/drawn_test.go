package record_test

import (
	"strings"
	"testing"

	"scullery/api"
	"scullery/face"
	"scullery/record"
	"scullery/tree"
)

// bytesOf a record, put together another way, be it none that may be.
func bytesOf(r api.Record) string {
	s := textOf(r.Name) + textOf(r.Source) + byteOf(len(r.Imports))
	for _, i := range r.Imports {
		flag := "\x00"
		if i.There {
			flag = "\x01"
		}
		s += textOf(i.Name) + flag + faceOf(i.Face)
	}
	s += faceOf(r.Face) + byteOf(len(r.Diags))
	for _, d := range r.Diags {
		s += textOf(d.Where) + byteOf(d.Code)
	}
	return s
}

func byteOf(n int) string { return string([]byte{byte(n)}) }

func textOf(s string) string { return byteOf(len(s)/256) + byteOf(len(s)%256) + s }

func faceOf(f api.Face) string {
	l := []string{byteOf(len(f.Types))}
	for _, k := range f.Types {
		l = append(l, textOf(k.Name), textOf(k.Is))
	}
	l = append(l, byteOf(len(f.Funcs)))
	for _, g := range f.Funcs {
		l = append(l, textOf(g.Name), byteOf(len(g.Params)))
		for _, p := range g.Params {
			l = append(l, textOf(p))
		}
		l = append(l, textOf(g.Result))
	}
	return strings.Join(l, "")
}

// parts of bytes: they are walked by their places, and what is wrong is thrown.
type parts struct {
	s  string
	at int
}

func (p *parts) byte() int {
	if p.at >= len(p.s) {
		panic(api.ErrShort)
	}
	p.at++
	return int(p.s[p.at-1])
}

func (p *parts) text() string {
	n := p.byte()
	n = 256*n + p.byte()
	if p.at+n > len(p.s) {
		panic(api.ErrShort)
	}
	p.at += n
	return p.s[p.at-n : p.at]
}

func (p *parts) face() (f api.Face) {
	for n := p.byte(); n > 0; n-- {
		name := p.text()
		f.Types = append(f.Types, api.Known{Name: name, Is: p.text()})
	}
	for n := p.byte(); n > 0; n-- {
		g := api.Sig{Name: p.text()}
		for m := p.byte(); m > 0; m-- {
			g.Params = append(g.Params, p.text())
		}
		g.Result = p.text()
		f.Funcs = append(f.Funcs, g)
	}
	return f
}

func (p *parts) record() (r api.Record) {
	r.Name = p.text()
	r.Source = p.text()
	for n := p.byte(); n > 0; n-- {
		i := api.Import{Name: p.text()}
		flag := p.byte()
		if flag > 1 {
			panic(api.ErrForm)
		}
		i.There = flag == 1
		i.Face = p.face()
		r.Imports = append(r.Imports, i)
	}
	r.Face = p.face()
	for n := p.byte(); n > 0; n-- {
		where := p.text()
		r.Diags = append(r.Diags, api.Diag{Where: where, Code: p.byte()})
	}
	if p.at < len(p.s) {
		panic(api.ErrForm)
	}
	return r
}

// told: what Decode should tell of no more than MaxLog bytes.
func told(s string) (r api.Record, e api.Errno) {
	defer func() {
		if x := recover(); x != nil {
			r, e = api.Record{}, x.(api.Errno)
		}
	}()
	p := parts{s: s}
	if r = p.record(); refused(r) != api.OK {
		return api.Record{}, refused(r)
	}
	return r, api.OK
}

// refused: what Check should tell, the words of the promise one behind the other.
func refused(r api.Record) api.Errno {
	if !tree.Ident(r.Name) {
		return api.ErrForm
	}
	if len(r.Source) > api.MaxSource {
		return api.ErrSize
	}
	if len(r.Diags) > api.MaxLines {
		return api.ErrSize
	}
	if e := face.CheckImports(r.Imports); e != api.OK {
		return e
	}
	if e := face.Check(r.Face); e != api.OK {
		return e
	}
	for _, d := range r.Diags {
		switch d.Code {
		case api.Syntax, api.Round, api.Missing, api.Twice, api.NoType, api.NoName, api.Count, api.Mismatch:
		default:
			return api.ErrForm
		}
		if d.Where != "" && !tree.Ident(d.Where) {
			return api.ErrForm
		}
	}
	return api.OK
}

func decodesAsTold(t *testing.T, s string) api.Errno {
	t.Helper()
	r, e := told(s)
	decodes(t, s, r, e)
	if e == api.OK && bytesOf(r) != s {
		t.Errorf("%q are the bytes of %v", s, r)
	}
	return e
}

func TestP11_3EncodeOfDrawnRecords(t *testing.T) {
	d := draw(113)
	for range 3000 {
		r := d.record()
		checks(t, r, api.OK)
		encodes(t, r, bytesOf(r))
	}
}

func TestP11_1CheckOfDrawnRecords(t *testing.T) {
	d := draw(111)
	count := map[api.Errno]int{}
	for range 10000 {
		r := d.record()
		switch d.n(8) {
		case 0:
			r.Name = d.of(noIdents()[:20]...)
		case 1:
			r.Source = strings.Repeat("a", api.MaxSource+d.n(2))
		case 2:
			r.Diags = append(r.Diags, make([]api.Diag, d.n(api.MaxLines+4))...)
		case 3:
			r.Imports = append(r.Imports, d.imports()...)
		case 4:
			r.Face.Funcs = append(r.Face.Funcs, d.face().Funcs...)
		case 5:
			r.Diags = append(r.Diags, at(d.of("", "a", "int", "x y"), d.n(12)))
		}
		checks(t, r, refused(r))
		if c := record.Copy(r); !equal(c, r) {
			t.Errorf("Copy of %v: %v", r, c)
		}
		count[refused(r)]++
	}
	for _, e := range []api.Errno{api.OK, api.ErrForm, api.ErrSize, api.ErrOrder} {
		if count[e] < 500 {
			t.Errorf("outcomes: %v", count)
		}
	}
}

func TestP11_2IsOfDrawnRecords(t *testing.T) {
	d := draw(112)
	count := 0
	for range 20000 {
		r := named("a", source(d.of("", "x")), using(d.imports()...), showing(d.face()))
		s, l := d.of("", "x"), d.imports()
		if d.n(2) == 0 {
			l = record.Copy(r).Imports
		}
		want := s == r.Source && equal(l, r.Imports)
		is(t, r, s, l, want)
		if want {
			count++
		}
	}
	if count < 2000 || count > 18000 {
		t.Errorf("%d times it is", count)
	}
}

// All bytes in the place of each one.
func TestP11_4DecodeOfOneOtherByte(t *testing.T) {
	for _, r := range []api.Record{named("a"), whole(), named("b", using(missing("a"), there("c", some())), wrong(at("", 1)))} {
		s := bytesOf(r)
		for i := range s {
			for b := range 256 {
				decodesAsTold(t, s[:i]+byteOf(b)+s[i+1:])
			}
		}
	}
}

// All short texts of a few bytes.
func TestP11_4DecodeOfAllShortTexts(t *testing.T) {
	var all func(s string, more int)
	all = func(s string, more int) {
		decodesAsTold(t, s)
		if more == 0 {
			return
		}
		for _, b := range []byte{0, 1, 2, 'a'} {
			all(s+string([]byte{b}), more-1)
		}
	}
	all("", 4)
	all("\x00\x01a\x00\x00", 7)
}

func TestP11_4DecodeOfDrawnBytes(t *testing.T) {
	d := draw(114)
	count := map[api.Errno]int{}
	for range 20000 {
		r := d.record()
		if d.n(4) == 0 {
			r.Imports = append(r.Imports, d.imports()...)
		}
		s := bytesOf(r)
		for range d.n(3) {
			i, j := d.n(len(s)+1), d.n(len(s)+1)
			switch d.n(4) {
			case 0:
				s = s[:i]
			case 1:
				s = s[:i] + d.of("\x00", "\x01", "\x02", "\xff", "a") + s[i:]
			case 2:
				s = s[:min(i, j)] + s[max(i, j):]
			case 3:
				s = s[:i] + s[j:]
			}
		}
		if len(s) <= api.MaxLog {
			count[decodesAsTold(t, s)]++
		}
	}
	for _, e := range []api.Errno{api.OK, api.ErrForm, api.ErrShort, api.ErrOrder} {
		if count[e] < 100 {
			t.Errorf("outcomes: %v", count)
		}
	}
}
