package graph

import (
	"slices"

	"scullery/api"
	"scullery/tree"
)

// fits: may it be, wherever it stands?
func fits(n api.Node) bool {
	return tree.Ident(n.Name) && len(n.Uses) <= api.MaxLines && !slices.ContainsFunc(n.Uses, noIdent)
}

func noIdent(s string) bool { return !tree.Ident(s) }

// finder of the places of nodes by their names; below 0: it is no node.
func finder(l []api.Node) func(name string) int {
	return func(name string) int {
		return slices.IndexFunc(l, func(n api.Node) bool { return n.Name == name })
	}
}

// rounds: does each node lead to itself?
func rounds(l []api.Node, find func(name string) int) []bool {
	round := make([]bool, len(l))
	for at := range l {
		round[at] = reached(l, at, find)[at]
	}
	return round
}

// reached: which ones the node at a place leads to; it does not stand among them itself unless a way leads back to it.
func reached(l []api.Node, from int, find func(name string) int) []bool {
	met := make([]bool, len(l))
	var walk func(at int)
	walk = func(at int) {
		for _, name := range l[at].Uses {
			to := find(name)
			if to < 0 || met[to] {
				continue
			}
			met[to] = true
			walk(to)
		}
	}
	walk(from)
	return met
}

// next: the place of the first node that is not settled, but of which all that it uses is; below 0: there is none.
func next(l []api.Node, settled []bool, find func(name string) int) int {
	waits := func(name string) bool {
		at := find(name)
		return at >= 0 && !settled[at]
	}
	for at, n := range l {
		if !settled[at] && !slices.ContainsFunc(n.Uses, waits) {
			return at
		}
	}
	return -1
}
