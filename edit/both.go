package edit

import "amanuensis/api"

// composed makes the edit that does first, and then, with what comes of it, then.
func composed(first, then *cursor) []api.Span {
	var out writer
	for !first.ended() || !then.ended() {
		switch {
		case then.now.kind == put:
			out.add(then.whole())
		case first.now.kind == drop: // then never sees these bytes
			out.add(first.whole())
		default:
			count := common(first, then)
			out.add(followed(first.pass(count), then.pass(count)))
		}
	}
	return out.edit()
}

// followed gives what becomes of bytes that first lets stay or puts in, when then lets them stay or takes them out.
func followed(first, then step) step {
	switch {
	case then.kind == stay:
		return first
	case first.kind == stay:
		return then
	}
	return step{} // what is put in and taken out again was never there
}

// merged makes of two edits of the same texts x, what is left of a behind b, and y, what is left of b behind a.
func merged(a, b *cursor) (x, y []api.Span) {
	var ofA, ofB writer
	for !a.ended() || !b.ended() {
		switch {
		case a.now.kind == put: // ahead of what b puts in there
			putIn(a.whole(), &ofA, &ofB)
		case b.now.kind == put:
			putIn(b.whole(), &ofB, &ofA)
		default:
			count := common(a, b)
			s, t := a.pass(count), b.pass(count)
			if t.kind == stay {
				ofA.add(s)
			}
			if s.kind == stay {
				ofB.add(t)
			}
		}
	}
	return ofA.edit(), ofB.edit()
}

// putIn adds what one hand puts in, which the other one finds in its text then.
func putIn(s step, hand, other *writer) {
	hand.add(s)
	other.add(step{kind: stay, count: s.count})
}
