package syntax

import "amanuensis/api"

// expression passes one, which may be missing.
func (in *row) expression() Expression {
	tokens, gaps := len(in.begins), in.gaps
	kind := in.kids[0].Kind
	e := in.enter().whole(kind)
	e.stand(in.since(tokens, gaps))
	return e
}

// whole passes all kids of an expression of a kind.
func (kids row) whole(kind int) Expression {
	switch kind {
	case api.NMissing:
		return &Missing{}
	case api.NLet:
		return kids.let()
	case api.NIf:
		e := kids.expressions()
		return &If{Test: e[0], Then: e[1], Else: e[2]}
	case api.NFun:
		return kids.fun()
	case api.NBinary:
		return kids.binary()
	case api.NCall:
		return kids.call()
	case api.NList:
		return &List{All: kids.expressions()}
	case api.NGroup:
		return &Group{Inner: kids.expressions()[0]}
	case api.NVar:
		return &Var{Name: kids.name()}
	case api.NHole:
		kids.pass() // ?
		return &Hole{}
	default:
		return &Literal{Kind: kind, Text: kids.pass().Text}
	}
}

// expressions passes all that is left, and gives the expressions among it.
func (in *row) expressions() []Expression {
	var all []Expression
	for in.more() {
		if isExpression(in.kids[0]) {
			all = append(all, in.expression())
		} else {
			in.leave()
		}
	}
	return all
}

func (in *row) let() *Let {
	in.pass() // let
	l := &Let{Name: in.name()}
	in.pass() // =
	l.Value = in.expression()
	in.pass() // in
	l.Body = in.expression()
	return l
}

func (in *row) fun() *Fun {
	in.pass() // fun
	f := &Fun{Params: in.params()}
	in.pass() // =>
	f.Body = in.expression()
	return f
}

func (in *row) binary() *Binary {
	b := &Binary{Left: in.expression()}
	b.Sign = in.pass().Text
	b.Right = in.expression()
	return b
}

func (in *row) call() *Call {
	c := &Call{Called: in.expression()}
	args := in.enter()
	c.Args = args.expressions()
	return c
}
