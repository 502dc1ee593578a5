package infer

import (
	"amanuensis/api"
	"amanuensis/syntax"
)

// expression gives the type of one, as far as it is known so far.
func (f *finder) expression(e syntax.Expression) *shape {
	t := f.kind(e)
	f.all = append(f.all, t)
	return t
}

func (f *finder) kind(e syntax.Expression) *shape {
	switch e := e.(type) {
	case *syntax.Literal:
		return f.literal(e)
	case *syntax.Var:
		return f.variable(e)
	case *syntax.Let:
		return f.let(e)
	case *syntax.If:
		return f.choice(e)
	case *syntax.Fun:
		return f.fun(e.Params, e.Body)
	case *syntax.Binary:
		return f.binary(e)
	case *syntax.Call:
		return f.call(e)
	case *syntax.List:
		return f.list(e)
	case *syntax.Group:
		return f.expression(e.Inner)
	case *syntax.Hole:
		t := f.open()
		f.holes = append(f.holes, t)
		return t
	default: // it is missing
		return f.open()
	}
}

func (f *finder) literal(l *syntax.Literal) *shape {
	switch l.Kind {
	case api.NNum:
		return f.make(number)
	case api.NStr:
		return f.make(words)
	default:
		return f.make(truth)
	}
}

// variable gives the type of what a name stands for; what stands for nothing is free, and so is a def that has no type.
func (f *finder) variable(v *syntax.Var) *shape {
	to, ok := f.stands[place{f.file, v.Name.At}]
	if !ok {
		return f.open()
	}
	if b, ok := f.known[to]; ok {
		return f.renew(b)
	}
	whole := f.Defs[f.named[to]].Found.whole
	if whole == nil {
		return f.open()
	}
	return f.renew(bound{whole, -1}) // all its variables are new
}

func (f *finder) let(l *syntax.Let) *shape {
	f.level++
	value := f.expression(l.Value)
	f.level--
	f.bind(l.Name, value)
	return f.expression(l.Body)
}

func (f *finder) choice(i *syntax.If) *shape {
	f.must(i.Test, f.make(truth))
	t := f.expression(i.Then)
	f.must(i.Else, t)
	return t
}

// must says which type an expression has to be of.
func (f *finder) must(e syntax.Expression, t *shape) { unite(f.expression(e), t) }

func (f *finder) binary(b *syntax.Binary) *shape {
	part, whole := f.sign(b.Sign)
	f.must(b.Left, part)
	f.must(b.Right, part)
	return whole
}

// sign gives what a sign stands between, and what comes of it.
func (f *finder) sign(sign string) (part, whole *shape) {
	switch sign {
	case "==":
		return f.open(), f.make(truth)
	case "<":
		return f.make(number), f.make(truth)
	case "++":
		return f.make(words), f.make(words)
	default:
		return f.make(number), f.make(number)
	}
}

func (f *finder) call(c *syntax.Call) *shape {
	called := f.expression(c.Called)
	var parts []*shape
	for _, arg := range c.Args {
		parts = append(parts, f.expression(arg))
	}
	result := f.open()
	unite(called, f.make(function, append(parts, result)...))
	return result
}

func (f *finder) list(l *syntax.List) *shape {
	t := f.open()
	for _, e := range l.All {
		f.must(e, t)
	}
	return f.make(list, t)
}
