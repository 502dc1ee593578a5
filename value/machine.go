package value

import "amanuensis/api"

// machine goes through the steps of bodies, one by one.
// It does not call itself for what is nested: an expression may be deep, and stand in itself as often as there is fuel.
type machine struct {
	frame
	back   []frame // where it goes on when a body ends; the last one first
	fuel   int
	recent shelf
}

// frame is where the machine stands in a body.
type frame struct {
	steps  []step
	next   int
	around *block
	values []value // of the parts that have theirs, and of which nothing is made yet
}

// block has the values of what an NParams, or a let, names.
type block struct {
	values []value
	out    *block
}

// run gives what a body comes to; it is come to like any other one.
func run(b *body, fuel int) (value, api.Errno) {
	m := &machine{fuel: fuel}
	m.steps = []step{visit{b}}
	if wrong := m.goOn(); wrong != api.OK {
		return nil, wrong
	}
	return m.pop(), api.OK
}

// goOn does all steps, till nothing is left, or something is wrong.
func (m *machine) goOn() api.Errno {
	for {
		for m.next < len(m.steps) {
			m.next++
			if wrong := m.steps[m.next-1].do(m); wrong != api.OK {
				return wrong
			}
		}
		if len(m.back) == 0 {
			return api.OK
		}
		m.leave()
	}
}

// enter goes on with a body, and behind it where the machine stands now; this takes fuel.
func (m *machine) enter(b *body, around *block) api.Errno {
	if wrong := m.burn(); wrong != api.OK {
		return wrong
	}
	m.back = append(m.back, m.frame)
	m.frame = frame{steps: b.steps, around: around}
	return api.OK
}

// leave goes on where a body was entered, with the value to which that has come.
func (m *machine) leave() {
	v := m.pop()
	last := len(m.back) - 1
	m.frame, m.back = m.back[last], m.back[:last]
	m.push(v)
}

// burn takes one of fuel.
func (m *machine) burn() api.Errno {
	if m.fuel == 0 {
		return api.ErrLong
	}
	m.fuel--
	return api.OK
}

func (m *machine) push(v value) { m.values = append(m.values, v) }

func (m *machine) pop() value {
	last := len(m.values) - 1
	v := m.values[last]
	m.values = m.values[:last]
	return v
}

// take takes so many values away, and gives them as a list of their own.
func (m *machine) take(count int) []value {
	first := len(m.values) - count
	taken := append([]value(nil), m.values[first:]...)
	m.values = m.values[:first]
	return taken
}
