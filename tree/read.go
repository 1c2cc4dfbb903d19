package tree

import (
	"strconv"

	"scullery/api"
	"scullery/token"
)

// deepest: so many types or expressions may stand within one another in a text. Brackets around an expression leave nothing in the tree, so there may be more of them than Check lets through.
const deepest = 4 * api.MaxNest

// reader of a line's tokens. What stands within another thing is read with a way back: a closure that is told what was read, and goes on behind it. What is wrong first ends all ways at once, as it is handed through.
type reader struct {
	l  []api.Token
	at int
}

// readLine lays what a line declares into a module.
func readLine(line string, m *api.Module) api.Errno {
	l, e := token.Cut(line)
	if e != api.OK || len(l) == 0 {
		return e
	}
	r := &reader{l: l}
	switch {
	case r.word("use"):
		return r.use(m)
	case r.word("type"):
		return r.named("=", func(f api.Field) api.Errno {
			m.Types = append(m.Types, f)
			return r.end()
		})
	case r.word("func"):
		return r.fun(func(f api.Func) api.Errno {
			m.Funcs = append(m.Funcs, f)
			return r.end()
		})
	}
	return api.ErrForm
}

func (r *reader) use(m *api.Module) api.Errno {
	name, ok := r.ident()
	if !ok {
		return api.ErrForm
	}
	m.Uses = append(m.Uses, name)
	return r.end()
}

// named: a name, a sign, and a type.
func (r *reader) named(sign string, back func(f api.Field) api.Errno) api.Errno {
	name, ok := r.ident()
	if !ok || !r.sign(sign) {
		return api.ErrForm
	}
	return r.typ(1, func(t api.Type) api.Errno {
		return back(api.Field{Name: name, Is: t})
	})
}

func (r *reader) fun(back func(f api.Func) api.Errno) api.Errno {
	name, ok := r.ident()
	if !ok {
		return api.ErrForm
	}
	v, ok := r.variable()
	if !ok || !r.sign("(") {
		return api.ErrForm
	}
	return r.params(func(l []api.Field) api.Errno {
		if !r.sign(":") {
			return api.ErrForm
		}
		return r.typ(1, func(result api.Type) api.Errno {
			if !r.sign("=") {
				return api.ErrForm
			}
			return r.expr(1, func(body api.Expr) api.Errno {
				return back(api.Func{Name: name, Var: v, Params: l, Result: result, Body: body})
			})
		})
	})
}

// variable of a function: it may have none.
func (r *reader) variable() (string, bool) {
	if !r.sign("<") {
		return "", true
	}
	name, ok := r.ident()
	return name, ok && r.sign(">")
}

// params, up to the bracket behind them.
func (r *reader) params(back func(l []api.Field) api.Errno) api.Errno {
	if r.sign(")") {
		return back(nil)
	}
	one := func(back func(f api.Field) api.Errno) api.Errno { return r.named(":", back) }
	return listed(r, ")", one, back)
}

func (r *reader) typ(depth int, back func(t api.Type) api.Errno) api.Errno {
	switch {
	case depth > deepest:
		return api.ErrSize
	case r.word("int"):
		return back(api.Type{Kind: api.Int})
	case r.word("text"):
		return back(api.Type{Kind: api.Text})
	case r.sign("["):
		return r.typ(depth+1, func(t api.Type) api.Errno {
			if !r.sign("]") {
				return api.ErrForm
			}
			return back(api.Type{Kind: api.List, Args: []api.Type{t}})
		})
	}
	of, name, ok := r.name()
	if !ok {
		return api.ErrForm
	}
	return back(api.Type{Kind: api.Name, Of: of, Name: name})
}

// expr: operands with plus between. They stand no deeper than it does itself.
func (r *reader) expr(depth int, back func(x api.Expr) api.Errno) api.Errno {
	if depth > deepest {
		return api.ErrSize
	}
	var left func(x api.Expr) api.Errno
	left = func(x api.Expr) api.Errno {
		if !r.sign("+") {
			return back(x)
		}
		return r.operand(depth, func(y api.Expr) api.Errno {
			return left(api.Expr{Kind: api.Sum, Args: []api.Expr{x, y}})
		})
	}
	return r.operand(depth, left)
}

// operand: something with any number of places behind it.
func (r *reader) operand(depth int, back func(x api.Expr) api.Errno) api.Errno {
	var places func(x api.Expr) api.Errno
	places = func(x api.Expr) api.Errno {
		if !r.sign("[") {
			return back(x)
		}
		return r.expr(depth+1, func(place api.Expr) api.Errno {
			if !r.sign("]") {
				return api.ErrForm
			}
			return places(api.Expr{Kind: api.At, Args: []api.Expr{x, place}})
		})
	}
	return r.something(depth, places)
}

// something that may have places behind it.
func (r *reader) something(depth int, back func(x api.Expr) api.Errno) api.Errno {
	if r.sign("(") {
		return r.expr(depth+1, func(x api.Expr) api.Errno {
			if !r.sign(")") {
				return api.ErrForm
			}
			return back(x)
		})
	}
	if r.sign("[") {
		return r.args(depth, "]", func(l []api.Expr) api.Errno {
			return back(api.Expr{Kind: api.Items, Args: l})
		})
	}
	if s, ok := r.take(api.Digit); ok {
		n, _ := strconv.Atoi(s)
		return back(api.Expr{Kind: api.Number, N: n})
	}
	if s, ok := r.take(api.Quote); ok {
		return back(api.Expr{Kind: api.Quoted, S: s})
	}
	return r.paramOrCall(depth, back)
}

// paramOrCall: only a bracket behind a name tells which one it is, and that of a module is none but a call.
func (r *reader) paramOrCall(depth int, back func(x api.Expr) api.Errno) api.Errno {
	of, name, ok := r.name()
	if !ok {
		return api.ErrForm
	}
	call := func(l []api.Expr) api.Errno {
		return back(api.Expr{Kind: api.Call, Of: of, S: name, Args: l})
	}
	switch {
	case r.sign("("):
		if r.sign(")") {
			return call(nil)
		}
		return r.args(depth, ")", call)
	case of != "":
		return api.ErrForm
	}
	return back(api.Expr{Kind: api.Param, S: name})
}

// args: one at least, up to the bracket behind them.
func (r *reader) args(depth int, end string, back func(l []api.Expr) api.Errno) api.Errno {
	one := func(back func(x api.Expr) api.Errno) api.Errno { return r.expr(depth+1, back) }
	return listed(r, end, one, back)
}

// listed: each by the same reading, with commas between, up to the bracket behind them.
func listed[T any](r *reader, end string, one func(back func(x T) api.Errno) api.Errno, back func(l []T) api.Errno) api.Errno {
	var l []T
	var next func(x T) api.Errno
	next = func(x T) api.Errno {
		l = append(l, x)
		switch {
		case r.sign(","):
			return one(next)
		case r.sign(end):
			return back(l)
		}
		return api.ErrForm
	}
	return one(next)
}

// name: an ident, perhaps behind that of a module.
func (r *reader) name() (of, name string, ok bool) {
	name, ok = r.ident()
	if !ok || !r.sign(".") {
		return "", name, ok
	}
	of = name
	name, ok = r.ident()
	return of, name, ok
}

func (r *reader) ident() (string, bool) {
	s, ok := r.take(api.Word)
	return s, ok && Ident(s)
}

// take the next token, if it is of a kind.
func (r *reader) take(kind int) (string, bool) {
	if r.at == len(r.l) || r.l[r.at].Kind != kind {
		return "", false
	}
	r.at++
	return r.l[r.at-1].Text, true
}

// word: goes behind it, if it is next.
func (r *reader) word(s string) bool { return r.skip(api.Token{Kind: api.Word, Text: s}) }

// sign: goes behind it, if it is next. A quote with the same text is none.
func (r *reader) sign(s string) bool { return r.skip(api.Token{Kind: api.Sign, Text: s}) }

func (r *reader) skip(t api.Token) bool {
	if r.at == len(r.l) || r.l[r.at] != t {
		return false
	}
	r.at++
	return true
}

// end: a line goes on behind nothing that it declares.
func (r *reader) end() api.Errno {
	if r.at < len(r.l) {
		return api.ErrForm
	}
	return api.OK
}
