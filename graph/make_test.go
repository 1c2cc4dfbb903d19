package graph_test

import (
	"reflect"
	"slices"
	"strings"
	"testing"
	"unsafe"

	"scullery/api"
	"scullery/graph"
)

// Short ways to write nodes.

// nodes, as "a: b c, b, c: a".
func nodes(s string) []api.Node {
	var l []api.Node
	for _, one := range strings.Split(s, ", ") {
		name, uses, _ := strings.Cut(one, ":")
		l = append(l, api.Node{Name: name, Uses: strings.Fields(uses)})
	}
	return l
}

// bare nodes: they use nothing.
func bare(names ...string) []api.Node {
	var l []api.Node
	for _, s := range names {
		l = append(l, api.Node{Name: s})
	}
	return l
}

func using(name string, uses ...string) []api.Node {
	return []api.Node{{Name: name, Uses: uses}}
}

// idents: names that may be, in their order.
func idents() []string {
	return []string{"a", "a0", "a1", "aa", "ab", "abcdefgh", "b", "fun", "funcs", "ints", "texts", "uses", "z", "z9"}
}

func noIdents() []string {
	return []string{"", " ", "use", "type", "func", "int", "text", "A", "1", "1a", "a b", "a.b", "a_b", "*", "[a]", "é", " a", "a ", "a\n", "\x00", "\xff", "abcdefghi", strings.Repeat("a", 1<<16)}
}

// checks: Check tells this, and what it refuses Order refuses, too.
func checks(t *testing.T, l []api.Node, want api.Errno) {
	t.Helper()
	if e := graph.Check(l); e != want {
		t.Errorf("Check of %.300v: %v, want %v", l, e, want)
	}
	first, last, e := graph.Order(l)
	if e != want || want != api.OK && len(first)+len(last) > 0 {
		t.Errorf("Order of %.300v: %v, %v, %v, want %v", l, first, last, e, want)
	}
}

// orders: with names between blanks, first others, then rounds.
func orders(t *testing.T, l []api.Node, first, last string) {
	t.Helper()
	x, y, e := graph.Order(l)
	if e != api.OK || !slices.Equal(x, strings.Fields(first)) || !slices.Equal(y, strings.Fields(last)) {
		t.Errorf("Order of %v: %v, %v, %v, want [%s], [%s]", l, x, y, e, first, last)
	}
}

// draw: numbers that look drawn, the same each time.
type draw uint64

func (d *draw) n(most int) int {
	*d = *d*6364136223846793005 + 1442695040888963407
	return int(uint64(*d>>33) % uint64(most))
}

func (d *draw) of(l ...string) string { return l[d.n(len(l))] }

// graph of nodes that may be, some names of which are no nodes.
func (d *draw) graph() []api.Node {
	var l []api.Node
	most := 1 + d.n(4)
	for _, s := range idents() {
		if d.n(3) == 0 || len(l) == api.MaxFiles {
			continue
		}
		n := api.Node{Name: s}
		for range d.n(most) {
			n.Uses = append(n.Uses, d.of(idents()...))
		}
		l = append(l, n)
	}
	return l
}

// span of memory.
type span struct{ from, to uintptr }

// spans: the memory of all lists within a value, spare room too, and of all texts.
func spans(v reflect.Value) []span {
	var l []span
	switch v.Kind() {
	case reflect.Struct:
		for i := range v.NumField() {
			l = append(l, spans(v.Field(i))...)
		}
	case reflect.Slice:
		if v.Cap() > 0 {
			l = append(l, span{v.Pointer(), v.Pointer() + uintptr(v.Cap())*v.Type().Elem().Size()})
		}
		for i := range v.Len() {
			l = append(l, spans(v.Index(i))...)
		}
	case reflect.String:
		from := uintptr(unsafe.Pointer(unsafe.StringData(v.String())))
		l = append(l, span{from, from + uintptr(v.Len())})
	}
	return l
}

// apart: no part of the values shares memory with any other part, of its own value or of another one.
func apart(t *testing.T, values ...any) {
	t.Helper()
	var all []span
	for _, v := range values {
		all = append(all, spans(reflect.ValueOf(v))...)
	}
	slices.SortFunc(all, func(a, b span) int { return int(a.from) - int(b.from) })
	for i := 1; i < len(all); i++ {
		if all[i].from < all[i-1].to {
			t.Errorf("memory is shared among %.300v", values)
			return
		}
	}
}
