package record

import (
	"strings"

	"scullery/api"
)

// reader of what is left, and what was wrong with it first. Behind that nothing is left: all that is still asked for is empty, and so the way ends soon.
type reader struct {
	rest string
	e    api.Errno
}

// refuse what is left, unless something is wrong already.
func (r *reader) refuse(e api.Errno) {
	if r.e == api.OK {
		r.rest, r.e = "", e
	}
}

// take so many bytes; if there are fewer, nothing.
func (r *reader) take(n int) string {
	if n > len(r.rest) {
		r.refuse(api.ErrShort)
		return ""
	}
	s := r.rest[:n]
	r.rest = r.rest[n:]
	return s
}

// number of so many bytes, the higher ones first.
func (r *reader) number(bytes int) int {
	n := 0
	for _, b := range []byte(r.take(bytes)) {
		n = n<<8 | int(b)
	}
	return n
}

func (r *reader) count() int { return r.number(1) }

// text is copied, as what is answered shares no memory with an argument.
func (r *reader) text() string { return strings.Clone(r.take(r.number(2))) }

// flag: a count that is 0 or 1.
func (r *reader) flag() bool {
	n := r.count()
	if n > 1 {
		r.refuse(api.ErrForm)
	}
	return n == 1
}

// end: nothing may be left.
func (r *reader) end() {
	if r.rest != "" {
		r.refuse(api.ErrForm)
	}
}

// readEach of a list, behind how many they are. Room is made as they come, as bytes may tell more than they have.
func readEach[T any](r *reader, one func() T) []T {
	var l []T
	for range r.count() {
		l = append(l, one())
	}
	return l
}

// record: its parts are read in the order in which they are written here.
func (r *reader) record() api.Record {
	return api.Record{
		Name:    r.text(),
		Source:  r.text(),
		Imports: readEach(r, func() api.Import { return api.Import{Name: r.text(), There: r.flag(), Face: r.face()} }),
		Face:    r.face(),
		Diags:   readEach(r, func() api.Diag { return api.Diag{Where: r.text(), Code: r.count()} }),
	}
}

func (r *reader) face() api.Face {
	return api.Face{
		Types: readEach(r, func() api.Known { return api.Known{Name: r.text(), Is: r.text()} }),
		Funcs: readEach(r, func() api.Sig {
			return api.Sig{Name: r.text(), Params: readEach(r, func() string { return r.text() }), Result: r.text()}
		}),
	}
}
