package edit

import "amanuensis/api"

// What a step does.
const (
	stay = iota // bytes of the text stay
	put         // bytes are put in
	drop        // bytes of the text are taken out
)

// step is a piece of what an edit does: with how many bytes it does what, and which ones are put in.
// All bytes behind the last step stay, and the step that does nothing says that there is none any more.
type step struct {
	kind, count int
	text        string
}

// stepsOf makes what gives the steps of an edit, one a call, none of them of 0 bytes.
// In each gap what is put in comes first, then what becomes of the byte behind the gap.
func stepsOf(e []api.Span) func() step {
	at := 0
	var ready []step
	return func() step {
		for len(ready) > 0 || len(e) > 0 {
			if len(ready) == 0 {
				ready = stepsOfSpan(at, e[0])
				at = e[0].To
				e = e[1:]
			}
			first := ready[0]
			ready = ready[1:]
			if first.count > 0 {
				return first
			}
		}
		return step{}
	}
}

// stepsOfSpan gives what a span does, from where the one ahead of it ends.
func stepsOfSpan(end int, s api.Span) []step {
	return []step{
		{kind: stay, count: s.From - end},
		{kind: put, count: len(s.Text), text: s.Text},
		{kind: drop, count: s.To - s.From},
	}
}

// cut parts a step behind some of its bytes.
func (s step) cut(count int) (head, rest step) {
	head, rest = s, s
	head.count, rest.count = count, s.count-count
	if s.kind == put {
		head.text, rest.text = s.text[:count], s.text[count:]
	}
	return head, rest
}

// cursor goes through steps in pieces of any size.
type cursor struct {
	next func() step
	now  step // what is left of the step that it is at
}

// cursorOf makes a cursor at the first step of an edit.
func cursorOf(e []api.Span) *cursor {
	next := stepsOf(e)
	return &cursor{next, next()}
}

// ended tells whether there is no step any more.
func (c *cursor) ended() bool { return c.now == step{} }

// pass goes on behind some bytes of the step that the cursor is at, or of those that stay behind the last one, and gives what becomes of them.
func (c *cursor) pass(count int) step {
	if c.ended() {
		return step{kind: stay, count: count}
	}
	head, rest := c.now.cut(count)
	if rest.count == 0 {
		rest = c.next()
	}
	c.now = rest
	return head
}

// whole goes on behind the step that the cursor is at, and gives it.
func (c *cursor) whole() step { return c.pass(c.now.count) }

// common tells how many bytes two cursors can both pass; they must not both have ended.
func common(a, b *cursor) int {
	if a.ended() {
		return b.now.count
	}
	if b.ended() {
		return a.now.count
	}
	return min(a.now.count, b.now.count)
}
