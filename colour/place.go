package colour

import "amanuensis/rope"

// place is where a character begins: in which line, and behind how many units of it.
type place struct{ line, unit int }

// past gives the place behind a text that begins at this one.
func (p place) past(text string) place {
	for _, c := range text {
		if c == '\n' {
			p = place{line: p.line + 1}
		} else {
			p.unit += rope.Units(c)
		}
	}
	return p
}

// behind tells by how many lines, and units, a place stands behind another one; in another line the units are those of the line.
func (p place) behind(last place) (line, unit int) {
	if p.line == last.line {
		return 0, p.unit - last.unit
	}
	return p.line - last.line, p.unit
}

// unitsOf tells how many units the characters of a text have.
func unitsOf(text string) int {
	n := 0
	for _, c := range text {
		n += rope.Units(c)
	}
	return n
}
