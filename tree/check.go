package tree

import (
	"scullery/api"
	"scullery/token"
)

// first thing that is wrong with one of a list.
func first[T any](l []T, check func(one T) api.Errno) api.Errno {
	for _, one := range l {
		if e := check(one); e != api.OK {
			return e
		}
	}
	return api.OK
}

func checkUse(name string) api.Errno {
	if !Ident(name) {
		return api.ErrForm
	}
	return api.OK
}

// checkField: a name with a type, be it one of a module or a param of a function.
func checkField(f api.Field) api.Errno {
	if !Ident(f.Name) {
		return api.ErrForm
	}
	return checkType(f.Is, 1)
}

func checkFunc(f api.Func) api.Errno {
	if !Ident(f.Name) || !emptyOrIdent(f.Var) {
		return api.ErrForm
	}
	if len(f.Params) > api.MaxArgs {
		return api.ErrSize
	}
	if e := first(f.Params, checkField); e != api.OK {
		return e
	}
	if e := checkType(f.Result, 1); e != api.OK {
		return e
	}
	return checkExpr(f.Body, 1)
}

func checkType(t api.Type, depth int) api.Errno {
	switch {
	case depth > api.MaxNest:
		return api.ErrSize
	case t.Kind < api.Int || t.Kind > api.Name:
		return api.ErrKind
	case !typeFits(t):
		return api.ErrForm
	}
	return first(t.Args, func(arg api.Type) api.Errno { return checkType(arg, depth+1) })
}

// typeFits: has it what its kind asks for, and nothing else?
func typeFits(t api.Type) bool {
	switch t.Kind {
	case api.List:
		return len(t.Args) == 1 && t.Name == "" && t.Of == ""
	case api.Name:
		return len(t.Args) == 0 && Ident(t.Name) && emptyOrIdent(t.Of)
	}
	return len(t.Args) == 0 && t.Name == "" && t.Of == ""
}

func checkExpr(x api.Expr, depth int) api.Errno {
	switch {
	case depth > api.MaxNest:
		return api.ErrSize
	case x.Kind < api.Number || x.Kind > api.At:
		return api.ErrKind
	case len(x.Args) > api.MaxArgs:
		return api.ErrSize
	case x.N != 0 && x.Kind != api.Number, !namesFit(x), !countFits(x):
		return api.ErrForm
	case x.N < 0 || x.N > api.MaxNumber:
		return api.ErrRange
	}
	return first(x.Args, func(arg api.Expr) api.Errno { return checkExpr(arg, depth+1) })
}

func namesFit(x api.Expr) bool {
	switch x.Kind {
	case api.Quoted:
		return token.Quotable(x.S) && x.Of == ""
	case api.Param:
		return Ident(x.S) && x.Of == ""
	case api.Call:
		return Ident(x.S) && emptyOrIdent(x.Of)
	}
	return x.S == "" && x.Of == ""
}

func countFits(x api.Expr) bool {
	switch x.Kind {
	case api.Call:
		return true
	case api.Items:
		return len(x.Args) > 0
	case api.Sum, api.At:
		return len(x.Args) == 2
	}
	return len(x.Args) == 0
}

func emptyOrIdent(s string) bool { return s == "" || Ident(s) }
