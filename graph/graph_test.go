package graph_test

import (
	"reflect"
	"slices"
	"strings"
	"testing"

	"scullery/api"
	"scullery/graph"
)

func TestP10_1CheckTakes(t *testing.T) {
	checks(t, nil, api.OK)
	checks(t, []api.Node{}, api.OK)
	checks(t, bare("a"), api.OK)
	checks(t, []api.Node{{Name: "a", Uses: []string{}}}, api.OK)
	// What is used need be no node, nor once alone, nor in an order, nor another one.
	for _, s := range []string{"a: b, b", "a: b, b: a", "a: a", "a: none", "a: b b, b", "a: z c b a c, b: a", "fun: uses, ints: funcs texts"} {
		checks(t, nodes(s), api.OK)
	}
}

func TestP10_1CheckSize(t *testing.T) {
	for n := range len(idents()) + 1 {
		want := api.OK
		if n > api.MaxFiles {
			want = api.ErrSize
		}
		checks(t, bare(idents()[:n]...), want)
	}
	// Ahead of what is wrong with any of them.
	checks(t, make([]api.Node, api.MaxFiles), api.ErrForm)
	checks(t, make([]api.Node, api.MaxFiles+1), api.ErrSize)
	checks(t, make([]api.Node, 1<<16), api.ErrSize)
	checks(t, slices.Repeat(bare("a"), api.MaxFiles), api.ErrOrder)
	checks(t, slices.Repeat(bare("a"), api.MaxFiles+1), api.ErrSize)
}

func TestP10_1CheckNames(t *testing.T) {
	for _, s := range idents() {
		checks(t, bare(s), api.OK)
	}
	for _, s := range noIdents() {
		checks(t, bare(s), api.ErrForm)
		checks(t, bare(s, "b"), api.ErrForm)
		checks(t, bare("a", "b", s), api.ErrForm)
	}
}

func TestP10_1CheckUses(t *testing.T) {
	for _, s := range idents() {
		checks(t, using("m", s), api.OK)
		checks(t, using("m", "b", s, "a", s), api.OK)
	}
	for _, s := range noIdents() {
		checks(t, using("m", s), api.ErrForm)
		checks(t, using("m", s, "a"), api.ErrForm)
		checks(t, using("m", "b", "a", s), api.ErrForm)
		checks(t, append(bare("a"), using("m", s)...), api.ErrForm)
		checks(t, append(using("m", s), bare("z")...), api.ErrForm)
	}
}

func TestP10_1CheckHowManyUses(t *testing.T) {
	for n := range 2 * api.MaxLines {
		want := api.OK
		if n > api.MaxLines {
			want = api.ErrForm
		}
		for _, s := range []string{"a", "m", "z"} {
			checks(t, using("m", slices.Repeat([]string{s}, n)...), want)
		}
		checks(t, append(bare("a", "b"), using("c", slices.Repeat([]string{"a", "b", "c", "d"}, n)[:n]...)...), want)
	}
	checks(t, using("m", make([]string, 1<<16)...), api.ErrForm)
	// Each has as many as it may have.
	full := slices.Repeat([]string{"a"}, api.MaxLines)
	var l []api.Node
	for _, s := range idents()[:api.MaxFiles] {
		l = append(l, api.Node{Name: s, Uses: full})
	}
	checks(t, l, api.OK)
}

func TestP10_1CheckOrder(t *testing.T) {
	l := idents()
	for i, a := range l {
		for j, b := range l {
			want := api.OK
			if i >= j {
				want = api.ErrOrder
			}
			checks(t, bare(a, b), want)
			checks(t, []api.Node{{Name: a, Uses: []string{b}}, {Name: b, Uses: []string{a}}}, want)
		}
	}
	// Above the one ahead: not the one that is first, nor any but that.
	for _, s := range []string{"a, c, b", "b, a, c", "a, b, b", "a, b, a", "a, a, b", "b, c, a", "a, b, d, c"} {
		checks(t, nodes(s), api.ErrOrder)
	}
	// Uses have no order.
	checks(t, nodes("a: z y x, b: c b a"), api.OK)
}

// One by one: the first one with which something is wrong is told, its form ahead of its order.
func TestP10_1CheckOrderOfErrors(t *testing.T) {
	checks(t, bare("b", "a", "int"), api.ErrOrder)
	checks(t, bare("b", "int", "a"), api.ErrForm)
	checks(t, bare("int", "b", "a"), api.ErrForm)
	checks(t, nodes("b, a: int"), api.ErrForm)
	checks(t, nodes("b, b: a int"), api.ErrForm)
	checks(t, nodes("b, a, c: int"), api.ErrOrder)
	checks(t, nodes("b: int, a"), api.ErrForm)
	many := api.Node{Name: "a", Uses: slices.Repeat([]string{"a"}, api.MaxLines+1)}
	checks(t, append(bare("b"), many), api.ErrForm)
	checks(t, append(bare("c", "b"), many), api.ErrOrder)
	checks(t, append([]api.Node{many}, bare("c", "b")...), api.ErrForm)
}

func TestP10_2Order(t *testing.T) {
	orders(t, nil, "", "")
	orders(t, []api.Node{}, "", "")
	orders(t, bare("a"), "a", "")
	orders(t, bare("a", "b", "c"), "a b c", "")
	orders(t, nodes("a: b, b"), "b a", "")
	orders(t, nodes("a, b: a"), "a b", "")
	orders(t, nodes("a: b, b: c, c: d, d"), "d c b a", "")
	orders(t, nodes("a: b c, b: d, c: d, d"), "d b c a", "")
	orders(t, nodes("a: d, b: a, c, d"), "c d a b", "")
}

// Each time the first one by its name that can be is told, be it ahead of the one told last or behind it.
func TestP10_2TheFirstByItsName(t *testing.T) {
	orders(t, nodes("a: c, b, c, d"), "b c a d", "")
	orders(t, nodes("a: b, b: d, c, d, e"), "c d b a e", "")
	orders(t, nodes("a: e, b: d, c: b, d, e"), "d b c e a", "")
	orders(t, nodes("a, b: e, c: a, d: c, e: d, f: a"), "a c d e b f", "")
	// Not one behind all that could be at the same time.
	orders(t, nodes("a: d, b, c: b, d"), "b c d a", "")
	// Names are compared byte by byte.
	orders(t, nodes("a, a0: b, a1, aa, b, z, z9"), "a a1 aa b a0 z z9", "")
}

// One waits for all that it uses, not for the first or the last one alone.
func TestP10_2AllOfTheUses(t *testing.T) {
	for _, uses := range []string{"b c d", "d c b", "c d b", "d b c d", "none d b c", "b b c c d d"} {
		orders(t, nodes("a: "+uses+", b, c, d"), "b c d a", "")
		orders(t, nodes("a: "+uses+", b: c, c: d, d, e"), "d c b a e", "")
	}
}

func TestP10_2UsesThatAreNoNodes(t *testing.T) {
	orders(t, nodes("a: none, b: gone none"), "a b", "")
	orders(t, nodes("a: none b gone, b: none"), "b a", "")
	orders(t, nodes("a: aa, b: a0"), "a b", "")
	orders(t, nodes("a: x, b: x a, c: b"), "a b c", "")
}

func TestP10_2TheMostUses(t *testing.T) {
	full := slices.Repeat([]string{"x", "c", "y"}, api.MaxLines/3)
	orders(t, append(using("a", full...), bare("b", "c", "d")...), "b c a d", "")
	full[api.MaxLines-1] = "a"
	orders(t, append(using("a", full...), bare("b", "c", "d")...), "b c d", "a")
}

func TestP10_2Rounds(t *testing.T) {
	orders(t, nodes("a: a"), "", "a")
	orders(t, nodes("a: b a, b"), "b", "a")
	orders(t, nodes("a: b, b: a"), "", "a b")
	orders(t, nodes("a: c, b: a, c: b"), "", "a b c")
	orders(t, nodes("a: b, b: c, c: d, d: e, e: a"), "", "a b c d e")
	orders(t, nodes("a: none x b, b: y y a"), "", "a b")
	// Two that share one, and two that share none.
	orders(t, nodes("a: b, b: a c, c: b"), "", "a b c")
	orders(t, nodes("a: d, b: c, c: b, d: a"), "", "a b c d")
	// One within another.
	orders(t, nodes("a: b, b: c b, c: d a, d: c"), "", "a b c d")
}

// Rounds are told in the order of their names, not in that in which they are met.
func TestP10_2RoundsInTheirOrder(t *testing.T) {
	orders(t, nodes("a: d, b: a, c: b, d: c"), "", "a b c d")
	orders(t, nodes("a: z, b: b, k, z: a"), "k", "a b z")
	orders(t, nodes("a: e, b: d, c: c, d: b, e: a"), "", "a b c d e")
}

// One that leads to a round, or to which a round leads, is none: it does not lead to itself.
func TestP10_2AroundRounds(t *testing.T) {
	orders(t, nodes("a: b, b: a, c: a"), "c", "a b")
	orders(t, nodes("a: b, b: b"), "a", "b")
	orders(t, nodes("a: c, b, c: c b"), "a b", "c")
	orders(t, nodes("a: b, b: c, c: d, d: c, e: a"), "b a e", "c d")
	orders(t, nodes("a: b, b: a c, c: d, d"), "d c", "a b")
	// Between two rounds.
	orders(t, nodes("a: a, b: a c, c: d, d: d"), "c b", "a d")
	orders(t, nodes("a: b, b: a c, c: d, d: e, e: d"), "c", "a b d e")
	// It waits for no round, but for all others.
	orders(t, nodes("a: c d, b: b, c: b, d: b"), "c d a", "b")
	orders(t, nodes("a: b c, b: d, c: c, d: c"), "d b a", "c")
}

// A name is another one than those that begin with it.
func TestP10_2NamesThatLookAlike(t *testing.T) {
	orders(t, nodes("a: aa, aa: aaa, aaa"), "aaa aa a", "")
	orders(t, nodes("a: aa, aa: a, aaa: a"), "aaa", "a aa")
}

func TestP10_2TheMostNodes(t *testing.T) {
	names := idents()[:api.MaxFiles]
	orders(t, bare(names...), strings.Join(names, " "), "")
	chain := bare(names...)
	for i := range api.MaxFiles - 1 {
		chain[i].Uses = names[i+1 : i+2]
	}
	back := slices.Clone(names)
	slices.Reverse(back)
	orders(t, chain, strings.Join(back, " "), "")
	chain[api.MaxFiles-1].Uses = names[:1]
	orders(t, chain, "", strings.Join(names, " "))
	// All use all.
	for i := range chain {
		chain[i].Uses = names
	}
	orders(t, chain, "", strings.Join(names, " "))
	// All use all behind them.
	for i := range chain {
		chain[i].Uses = names[i+1:]
	}
	orders(t, chain, strings.Join(back, " "), "")
}

// What is handed in stays as it was, spare room too, and is answered the same again.
func TestListsHandedInStayAsTheyWere(t *testing.T) {
	d := draw(105)
	for range 2000 {
		l := d.graph()
		for i, n := range l {
			l[i].Uses = append(n.Uses, "x", "y")[:len(n.Uses)]
		}
		l = append(l, bare("x", "a")...)[:len(l)]
		before := withRoom(l)
		first, last, _ := graph.Order(l)
		if graph.Check(l); !reflect.DeepEqual(before, withRoom(l)) {
			t.Errorf("the nodes are now %v", l)
		}
		// What was answered may be written over, without being kept.
		x, y := strings.Join(first, " "), strings.Join(last, " ")
		clear(first[:cap(first)])
		clear(last[:cap(last)])
		orders(t, l, x, y)
	}
}

// withRoom: a copy of nodes with the spare room of all lists.
func withRoom(l []api.Node) []any {
	all := []any{slices.Clone(l[:cap(l)])}
	for _, n := range l {
		all = append(all, slices.Clone(n.Uses[:cap(n.Uses)]))
	}
	return all
}

func TestAnswersShareNothing(t *testing.T) {
	l := nodes("aa: bb, bb: zz, cc: dd, dd: cc, ee, ff: ff")
	x, y, _ := graph.Order(l)
	x2, y2, _ := graph.Order(l)
	if len(x) != 3 || len(y) != 3 {
		t.Fatal(x, y)
	}
	apart(t, l, x, y, x2, y2)
}
