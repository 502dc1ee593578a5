package lay

import "amanuensis/api"

// line is how many blanks it begins with, and what stands in it: from which token to ahead of which one.
type line struct{ indent, from, to int }

// lines gives the lines of an item.
func (r *row) lines(item part) []line {
	p := page{row: r}
	switch {
	case item.kind == api.NDef && !r.fits(item, api.MaxWide):
		p.def(item)
	case item.from < item.to: // what is left behind the last item has no token
		p.add(0, item.from, item.to)
	}
	return p.all
}

// page is the lines that have been made of a row.
type page struct {
	*row
	all []line
}

// step is by how much more what stands in something is indented.
const step = 2

// add adds a line.
func (p *page) add(n, from, to int) { p.all = append(p.all, line{n, from, to}) }

// close puts the next token at the end of the last line.
func (p *page) close() { p.all[len(p.all)-1].to++ }

// def lays out an NDef: its last parts are the expression and the `;`.
func (p *page) def(d part) {
	body := d.parts[len(d.parts)-2]
	p.add(0, d.from, body.from)
	p.expression(body, step)
	p.close()
}

// expression lays out one that is indented by n.
func (p *page) expression(e part, n int) {
	if p.fits(e, api.MaxWide-n-1) { // a sign may stand behind it
		p.add(n, e.from, e.to)
		return
	}
	switch e.kind {
	case api.NLet:
		p.tail(e, n, n)
	case api.NIf:
		p.choice(e, n)
	case api.NFun:
		p.tail(e, n, n+step)
	case api.NBinary:
		p.binary(e, n)
	case api.NCall:
		p.bracket(e.from, e.parts[1], n)
	case api.NList, api.NGroup:
		p.bracket(e.from, e, n)
	default:
		p.add(n, e.from, e.to)
	}
}

// tail lays out what ends with an expression, which is indented by inner.
func (p *page) tail(e part, n, inner int) {
	last := e.parts[len(e.parts)-1]
	p.add(n, e.from, last.from)
	p.expression(last, inner)
}

// choice lays out an NIf: its parts are `if`, the test, `then`, an expression, `else`, an expression.
func (p *page) choice(e part, n int) {
	yes, or, no := e.parts[3], e.parts[4], e.parts[5]
	p.add(n, e.from, yes.from)
	p.expression(yes, n+step)
	p.add(n, or.from, or.to)
	p.expression(no, n+step)
}

// binary lays out an NBinary: its parts are an expression, the sign, an expression.
func (p *page) binary(e part, n int) {
	left, sign, right := e.parts[0], e.parts[1], e.parts[2]
	p.expression(left, n)
	p.add(n, sign.from, sign.to)
	p.expression(right, n+step)
}

// bracket lays out an NArgs, NList or NGroup, and the tokens from one on that stand ahead of it in its first line.
// Its parts are what opens it, the expressions with a `,` between two of them, what closes it.
func (p *page) bracket(from int, b part, n int) {
	inner := b.parts[1 : len(b.parts)-1]
	if len(inner) == 0 {
		p.add(n, from, b.to)
		return
	}
	p.add(n, from, inner[0].from)
	for _, e := range inner {
		if e.kind == api.NLeaf {
			p.close()
		} else {
			p.expression(e, n+step)
		}
	}
	p.add(n, b.to-1, b.to)
}
