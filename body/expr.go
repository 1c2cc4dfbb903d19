package body

import (
	"slices"

	"scullery/api"
	"scullery/kind"
	"scullery/unify"
)

const (
	number = "int"
	quoted = "text"
)

// expr: what an expression is, or what is wrong first.
func (n names) expr(x api.Expr) (string, int) {
	switch x.Kind {
	case api.Number:
		return number, 0
	case api.Quoted:
		return quoted, 0
	case api.Param:
		return n.paramOf(x.S)
	case api.Call:
		return n.call(x)
	}
	args, code := n.each(x.Args)
	if code != 0 {
		return "", code
	}
	return fitting(made(x.Kind, args))
}

func (n names) paramOf(name string) (string, int) {
	is, ok := n.param(name)
	if !ok {
		return "", api.NoName
	}
	return is, 0
}

func (n names) call(x api.Expr) (string, int) {
	f, ok := n.function(x.Of, x.S)
	if !ok {
		return "", api.NoName
	}
	// Ahead of the args: what is wrong with them is told behind it.
	if len(x.Args) != len(f.Params) {
		return "", api.Count
	}
	args, code := n.each(x.Args)
	if code != 0 {
		return "", code
	}
	is, e := unify.All(f.Params, args, f.Result)
	return fitting(is, e == api.OK)
}

// each of some expressions: what they are, or what is wrong with the first one that is not right.
func (n names) each(l []api.Expr) ([]string, int) {
	kinds := make([]string, len(l))
	for i, x := range l {
		is, code := n.expr(x)
		if code != 0 {
			return nil, code
		}
		kinds[i] = is
	}
	return kinds, 0
}

func fitting(is string, ok bool) (string, int) {
	if !ok {
		return "", api.Mismatch
	}
	return is, 0
}

// made of args with nothing wrong: what it is; false: they do not fit. How many there are is asked too, as of expressions that may not be no call panics.
func made(what int, args []string) (string, bool) {
	switch {
	case what == api.Items && len(args) > 0:
		return items(args)
	case what == api.Sum && len(args) == 2:
		return sum(args[0], args[1])
	case what == api.At && len(args) == 2:
		return element(args[0], args[1])
	}
	return "", false
}

func items(l []string) (string, bool) {
	if slices.ContainsFunc(l, func(is string) bool { return is != l[0] }) {
		return "", false
	}
	list, e := kind.ListOf(l[0])
	return list, e == api.OK
}

func sum(a, b string) (string, bool) {
	return a, a == b && (a == number || a == quoted)
}

func element(list, place string) (string, bool) {
	if place != number {
		return "", false
	}
	return kind.Elem(list)
}
