package graph_test

import (
	"slices"
	"strings"
	"testing"

	"scullery/api"
	"scullery/graph"
	"scullery/tree"
)

// leads: which nodes lead to which, found another way: step by step two ways are put together, until nothing new comes.
func leads(l []api.Node) map[[2]string]int {
	to := map[[2]string]int{}
	for _, n := range l {
		for _, s := range n.Uses {
			to[[2]string{n.Name, s}] = 1
		}
	}
	for size := -1; size != len(to); {
		size = len(to)
		for _, a := range l {
			for _, b := range l {
				for _, c := range l {
					if to[[2]string{a.Name, b.Name}]+to[[2]string{b.Name, c.Name}] == 2 {
						to[[2]string{a.Name, c.Name}] = 1
					}
				}
			}
		}
	}
	return to
}

// told: what Order should tell of nodes that may be, found another way: those that are left are walked from the last one to the first, and the one that can be told and was met last is taken out.
func told(l []api.Node) (first, last []string) {
	to := leads(l)
	var left []api.Node
	for _, n := range l {
		if to[[2]string{n.Name, n.Name}] == 1 {
			last = append(last, n.Name)
		} else {
			left = append(left, n)
		}
	}
	for len(left) > 0 {
		at := -1
		for i, n := range slices.Backward(left) {
			if !slices.ContainsFunc(left, func(m api.Node) bool { return slices.Contains(n.Uses, m.Name) }) {
				at = i
			}
		}
		first = append(first, left[at].Name)
		left = slices.Delete(left, at, at+1)
	}
	return first, last
}

func ordersAsTold(t *testing.T, l []api.Node) {
	t.Helper()
	first, last := told(l)
	orders(t, l, strings.Join(first, " "), strings.Join(last, " "))
}

// All graphs of four nodes.
func TestP10_2OrderOfAllSmallGraphs(t *testing.T) {
	names := []string{"a", "b", "c", "d"}
	for bits := range 1 << 16 {
		l := bare(names...)
		for i := range 16 {
			if bits>>i&1 == 1 {
				l[i/4].Uses = append(l[i/4].Uses, names[i%4])
			}
		}
		ordersAsTold(t, l)
	}
}

func TestP10_2OrderOfDrawnGraphs(t *testing.T) {
	d := draw(102)
	count := map[string]int{}
	for range 20000 {
		l := d.graph()
		checks(t, l, api.OK)
		ordersAsTold(t, l)
		first, last, _ := graph.Order(l)
		if len(last) > 0 && len(first) > 0 {
			count["both"]++
		}
		if len(last) == 0 && !slices.IsSorted(first) {
			count["moved"]++
		}
		// Each is told once.
		all := append(first, last...)
		slices.Sort(all)
		if !slices.EqualFunc(all, l, func(s string, n api.Node) bool { return s == n.Name }) {
			t.Errorf("Order of %v: %v", l, all)
		}
	}
	if count["both"] < 1000 || count["moved"] < 1000 {
		t.Errorf("outcomes: %v", count)
	}
}

// wrong: what Check is to tell, the words of the promise one behind the other.
func wrong(l []api.Node) api.Errno {
	if len(l) > api.MaxFiles {
		return api.ErrSize
	}
	for i, n := range l {
		if !tree.Ident(n.Name) || len(n.Uses) > api.MaxLines {
			return api.ErrForm
		}
		for _, s := range n.Uses {
			if !tree.Ident(s) {
				return api.ErrForm
			}
		}
		if i > 0 && n.Name <= l[i-1].Name {
			return api.ErrOrder
		}
	}
	return api.OK
}

func TestP10_1CheckOfDrawnGraphs(t *testing.T) {
	d := draw(101)
	count := map[api.Errno]int{}
	for range 20000 {
		l := d.graph()
		for i := range l {
			switch d.n(25) {
			case 0:
				l[i].Name = d.of(append(idents(), noIdents()[:9]...)...)
			case 1:
				l[i].Uses = append(l[i].Uses, d.of(noIdents()...))
			case 2:
				l[i].Uses = slices.Repeat([]string{"a"}, api.MaxLines+d.n(2))
			case 3:
				l = append(l, l[d.n(len(l))])
			}
		}
		checks(t, l, wrong(l))
		count[wrong(l)]++
	}
	for _, e := range []api.Errno{api.OK, api.ErrSize, api.ErrForm, api.ErrOrder} {
		if count[e] < 500 {
			t.Errorf("outcomes: %v", count)
		}
	}
}
