package print

import "treadle/api"

// A type's key stands at its number.
var types = [...]string{api.TypeInt: "int", api.TypeBool: "bool", api.TypeText: "text"}

func (p *printer) module(m api.Module) {
	for _, in := range m.Includes {
		p.put("include", blank, quoted(in.Path), blank, "as", blank, in.Name, ";")
		p.line()
	}
	for i, c := range m.Consts {
		if i == 0 {
			p.apart()
		}
		p.constant(c)
		p.line()
	}
	for _, f := range m.Funcs {
		p.apart()
		p.function(f)
		p.line()
	}
}

// apart writes an empty line, if anything stands ahead of it.
func (p *printer) apart() {
	if p.Len() > 0 {
		p.line()
	}
}

func (p *printer) exported(is bool) {
	if is {
		p.put("export", blank)
	}
}

func (p *printer) constant(c api.Const) {
	p.exported(c.Export)
	p.put("const", blank, c.Name)
	p.given(c.Expr)
}

func (p *printer) function(f api.Func) {
	p.exported(f.Export)
	p.put("func", blank, f.Name)
	bracketed(p, f.Params, (*printer).param)
	if f.Result != api.TypeNone {
		p.put(":", blank, types[f.Result])
	}
	p.put(blank)
	p.block(f.Body)
}

func (p *printer) param(x api.Param) { p.put(x.Name, ":", blank, types[x.Type]) }
