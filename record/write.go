package record

import (
	"strings"

	"scullery/api"
)

// writer of a record that may be: no length and no count goes beyond its bytes.
type writer struct{ b strings.Builder }

func (w *writer) count(n int) { w.b.WriteByte(byte(n)) }

func (w *writer) text(s string) {
	w.b.WriteByte(byte(len(s) >> 8))
	w.b.WriteByte(byte(len(s)))
	w.b.WriteString(s)
}

// writeEach of a list, behind how many they are.
func writeEach[T any](w *writer, l []T, one func(T)) {
	w.count(len(l))
	for _, x := range l {
		one(x)
	}
}

func (w *writer) record(r api.Record) {
	w.text(r.Name)
	w.text(r.Source)
	writeEach(w, r.Imports, w.module)
	w.face(r.Face)
	writeEach(w, r.Diags, w.diag)
}

func (w *writer) module(i api.Import) {
	w.text(i.Name)
	there := 0
	if i.There {
		there = 1
	}
	w.count(there)
	w.face(i.Face)
}

func (w *writer) face(f api.Face) {
	writeEach(w, f.Types, w.known)
	writeEach(w, f.Funcs, w.sig)
}

func (w *writer) known(t api.Known) {
	w.text(t.Name)
	w.text(t.Is)
}

func (w *writer) sig(f api.Sig) {
	w.text(f.Name)
	writeEach(w, f.Params, w.text)
	w.text(f.Result)
}

func (w *writer) diag(d api.Diag) {
	w.text(d.Where)
	w.count(d.Code)
}
