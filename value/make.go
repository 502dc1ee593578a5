package value

import (
	"strconv"

	"amanuensis/api"
	"amanuensis/lex"
	"amanuensis/syntax"
)

// maker finds the steps of one body: those of the parts of an expression stand ahead of its own.
type maker struct {
	*program
	file  int
	in    *names
	steps []step
}

// names are those of an NParams, or of a let, around an expression: when it is come to, there is a block for each of them.
type names struct {
	all []syntax.Name
	out *names
}

// find gives how many blocks further out a name stands that is named at a place, and as which one there.
func (n *names) find(at int) local {
	for up := 0; n != nil; up++ {
		for i, name := range n.all {
			if name.At == at {
				return local{up, i}
			}
		}
		n = n.out
	}
	return local{}
}

// body gives what an expression does, which may have an NParams, with the names around it.
func (p *program) body(file int, params *syntax.Params, e syntax.Expression, out *names) body {
	m := &maker{program: p, file: file, in: out}
	count := 0
	if params != nil {
		m.in = &names{params.Names, out}
		count = len(params.Names)
	}
	m.expression(e)
	return body{count, m.steps}
}

// add adds a step, and gives where it stands.
func (m *maker) add(s step) int {
	m.steps = append(m.steps, s)
	return len(m.steps) - 1
}

func (m *maker) expression(e syntax.Expression) {
	switch e := e.(type) {
	case *syntax.Literal:
		m.add(constant{literal(e)})
	case *syntax.Var:
		m.add(m.variable(e))
	case *syntax.Let:
		m.let(e)
	case *syntax.If:
		m.choice(e)
	case *syntax.Fun:
		inner := m.body(m.file, e.Params, e.Body, m.in)
		m.add(enclose{&inner})
	case *syntax.Binary:
		m.expression(e.Left)
		m.expression(e.Right)
		m.add(combine{e.Sign})
	case *syntax.Call:
		m.expression(e.Called)
		m.all(e.Args)
		m.add(call{len(e.Args)})
	case *syntax.List:
		m.all(e.All)
		m.add(gather{len(e.All)})
	case *syntax.Group:
		m.expression(e.Inner)
	default: // a hole, or what is missing
		m.add(stuck{})
	}
}

func (m *maker) all(parts []syntax.Expression) {
	for _, part := range parts {
		m.expression(part)
	}
}

func literal(l *syntax.Literal) value {
	switch l.Kind {
	case api.NNum:
		n, _ := strconv.Atoi(l.Text) // it has too few digits to be too great
		return n
	case api.NStr:
		s, _ := lex.Unquote(l.Text)
		return plainWords(s)
	default:
		return l.Text == "true"
	}
}

// variable gives the step of a name, which hangs on what it stands for.
func (m *maker) variable(v *syntax.Var) step {
	to, ok := m.stands[place{m.file, v.Name.At}]
	if !ok {
		return stuck{}
	}
	d, ok := m.defs[to]
	if !ok {
		return m.in.find(to.at)
	}
	if d.Params == nil {
		return visit{d.body}
	}
	return constant{&function{body: d.body}}
}

func (m *maker) let(l *syntax.Let) {
	m.expression(l.Value)
	m.add(bind{})
	m.in = &names{[]syntax.Name{l.Name}, m.in}
	m.expression(l.Body)
	m.in = m.in.out
	m.add(unbind{})
}

func (m *maker) choice(i *syntax.If) {
	m.expression(i.Test)
	test := m.add(nil) // where both lead is known only behind what they pass
	m.expression(i.Then)
	end := m.add(nil)
	m.steps[test] = unless{len(m.steps)}
	m.expression(i.Else)
	m.steps[end] = skip{len(m.steps)}
}
