package tree

import (
	"strconv"
	"strings"

	"scullery/api"
)

// printer writes what Check let through, and so asks nothing any more.
type printer struct {
	b strings.Builder
}

func (p *printer) write(l ...string) {
	for _, s := range l {
		p.b.WriteString(s)
	}
}

func (p *printer) fun(f api.Func) {
	p.write("func ", f.Name)
	if f.Var != "" {
		p.write("<", f.Var, ">")
	}
	p.write("(")
	for i, param := range f.Params {
		p.comma(i)
		p.write(param.Name, ": ")
		p.typ(param.Is)
	}
	p.write("): ")
	p.typ(f.Result)
	p.write(" = ")
	p.expr(f.Body)
}

func (p *printer) typ(t api.Type) {
	switch t.Kind {
	case api.Int:
		p.write("int")
	case api.Text:
		p.write("text")
	case api.List:
		p.write("[")
		p.typ(t.Args[0])
		p.write("]")
	case api.Name:
		p.name(t.Of, t.Name)
	}
}

func (p *printer) expr(x api.Expr) {
	switch x.Kind {
	case api.Number:
		p.write(strconv.Itoa(x.N))
	case api.Quoted:
		p.write(`"`, x.S, `"`)
	case api.Param:
		p.write(x.S)
	case api.Call:
		p.name(x.Of, x.S)
		p.args("(", x.Args, ")")
	case api.Sum:
		p.write("(")
		p.expr(x.Args[0])
		p.write(" + ")
		p.expr(x.Args[1])
		p.write(")")
	case api.Items:
		p.args("[", x.Args, "]")
	case api.At:
		p.expr(x.Args[0])
		p.args("[", x.Args[1:], "]")
	}
}

func (p *printer) args(begin string, l []api.Expr, end string) {
	p.write(begin)
	for i, x := range l {
		p.comma(i)
		p.expr(x)
	}
	p.write(end)
}

func (p *printer) name(of, name string) {
	if of != "" {
		p.write(of, ".")
	}
	p.write(name)
}

// comma between what is listed: ahead of each but the first one.
func (p *printer) comma(i int) {
	if i > 0 {
		p.write(", ")
	}
}
