package tree

import "amanuensis/api"

// expression reads one into a branch; it becomes one part of it, as all that is read by the functions below.
func (r *reader) expression(b *branch) {
	switch {
	case r.deep > api.MaxNest:
		b.add(missing(anExpression))
	case r.isNext("let"):
		r.nest(b, api.NLet, r.let)
	case r.isNext("if"):
		r.nest(b, api.NIf, r.choice)
	case r.isNext("fun"):
		r.nest(b, api.NFun, r.fun)
	default:
		r.comparison(b)
	}
}

// nest takes what is next into a branch in which expressions stand one level deeper, and reads on there.
func (r *reader) nest(b *branch, kind int, inner func(*branch)) {
	n := b.grow(kind)
	r.deep++
	r.take(n)
	inner(n)
	r.deep--
}

func (r *reader) let(b *branch) {
	r.want(b, aName, "=")
	r.expression(b)
	r.want(b, "in")
	r.expression(b)
}

func (r *reader) choice(b *branch) {
	r.expression(b)
	r.want(b, "then")
	r.expression(b)
	r.want(b, "else")
	r.expression(b)
}

func (r *reader) fun(b *branch) {
	r.params(b)
	r.want(b, "=>")
	r.expression(b)
}

func (r *reader) args(b *branch) { r.several(b, r.expression, ")") }

func (r *reader) list(b *branch) { r.several(b, r.expression, "]") }

func (r *reader) group(b *branch) {
	r.expression(b)
	r.want(b, ")")
}

func (r *reader) comparison(b *branch) {
	r.sum(b)
	if r.isNext("==", "<") { // once alone: they stand in no row
		r.binary(b, r.sum)
	}
}

func (r *reader) sum(b *branch) { r.row(b, r.product, "+", "-", "++") }

func (r *reader) product(b *branch) { r.row(b, r.call, "*") }

// row reads things with signs between them; those on the left belong together first.
func (r *reader) row(b *branch, one func(*branch), signs ...string) {
	one(b)
	for r.isNext(signs...) {
		r.binary(b, one)
	}
}

// binary puts what was read last, the sign that is next, and another thing together.
func (r *reader) binary(b *branch, one func(*branch)) {
	n := b.wrap(api.NBinary)
	r.take(n)
	one(n)
}

func (r *reader) call(b *branch) {
	r.part(b)
	for r.isNext("(") {
		r.nest(b.wrap(api.NCall), api.NArgs, r.args)
	}
}

func (r *reader) part(b *branch) {
	switch {
	case r.kind == api.TInt:
		r.take(b.grow(api.NNum))
	case r.kind == api.TText:
		r.take(b.grow(api.NStr))
	case r.isNext("true", "false"):
		r.take(b.grow(api.NBool))
	case r.isNext(aName):
		r.take(b.grow(api.NVar))
	case r.isNext("?"):
		r.take(b.grow(api.NHole))
	case r.isNext("("):
		r.nest(b, api.NGroup, r.group)
	case r.isNext("["):
		r.nest(b, api.NList, r.list)
	default:
		b.add(missing(anExpression))
	}
}
