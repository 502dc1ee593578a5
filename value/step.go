package value

import "amanuensis/api"

// step is one of the things that a machine does, one behind the other, for an expression.
type step interface {
	do(m *machine) api.Errno
}

// constant has a value that is always the same.
type constant struct{ value value }

// local is the value of a parameter, or of a let: so many blocks further out, as this one there.
type local struct{ up, index int }

// stuck is what has no value.
type stuck struct{}

// visit comes to a def without an NParams.
type visit struct{ body *body }

// enclose makes a function of a fun, with the blocks around it.
type enclose struct{ body *body }

// gather makes a list of so many parts.
type gather struct{ parts int }

// combine makes one value of two, by a sign.
type combine struct{ sign string }

// call calls a function with so many parts.
type call struct{ parts int }

// bind makes a block of what a let gives to its name.
type bind struct{}

// unbind ends the innermost block.
type unbind struct{}

// unless goes on at a step, if a truth is false.
type unless struct{ to int }

// skip goes on at a step.
type skip struct{ to int }

func (c constant) do(m *machine) api.Errno {
	m.push(c.value)
	return api.OK
}

func (l local) do(m *machine) api.Errno {
	b := m.around
	for range l.up {
		b = b.out
	}
	m.push(b.values[l.index])
	return api.OK
}

func (stuck) do(*machine) api.Errno { return api.ErrStuck }

func (v visit) do(m *machine) api.Errno { return m.enter(v.body, nil) }

func (e enclose) do(m *machine) api.Errno {
	m.push(&function{e.body, m.around})
	return api.OK
}

func (g gather) do(m *machine) api.Errno {
	m.push(list(m.take(g.parts)))
	return api.OK
}

func (c combine) do(m *machine) api.Errno {
	right := m.pop()
	left := m.pop()
	v, wrong := m.combined(c.sign, left, right)
	m.push(v)
	return wrong
}

func (c call) do(m *machine) api.Errno {
	parts := m.take(c.parts)
	f, ok := m.pop().(*function)
	if !ok || f.body.names != len(parts) {
		return api.ErrStuck
	}
	return m.enter(f.body, &block{parts, f.around})
}

func (bind) do(m *machine) api.Errno {
	m.around = &block{m.take(1), m.around}
	return api.OK
}

func (unbind) do(m *machine) api.Errno {
	m.around = m.around.out
	return api.OK
}

func (u unless) do(m *machine) api.Errno {
	truth, ok := m.pop().(bool)
	if !ok {
		return api.ErrStuck
	}
	if !truth {
		m.next = u.to
	}
	return api.OK
}

func (s skip) do(m *machine) api.Errno {
	m.next = s.to
	return api.OK
}
