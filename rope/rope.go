// Package rope has texts that are long, and places in them (chapter 1).
package rope

import (
	"strings"
	"unicode/utf8"

	"amanuensis/api"
)

// Rope holds a text.
type Rope struct{ root *node }

// New makes a rope.
func New(text string) *Rope { return &Rope{build(text)} }

// Len tells how many bytes there are.
func (r *Rope) Len() int { return r.root.measured().bytes }

// Lines tells how many lines there are.
func (r *Rope) Lines() int { return r.root.measured().breaks + 1 }

// Text gives a piece.
func (r *Rope) Text(from, to int) string {
	if !r.has(from, to) {
		return ""
	}
	var b strings.Builder
	b.Grow(to - from)
	write(&b, r.root, from, to)
	return b.String()
}

// Rune gives the character from a place on.
func (r *Rope) Rune(at int) (rune, int) {
	if at < 0 || at >= r.Len() {
		return 0, 0
	}
	return utf8.DecodeRuneInString(r.Text(at, min(at+utf8.UTFMax, r.Len())))
}

// Replace gives another rope.
func (r *Rope) Replace(from, to int, text string) (*Rope, error) {
	if !r.has(from, to) {
		return nil, api.ErrRange
	}
	// The bytes next to what is replaced are looked at anew: they may be one character with others now, and no leaf may end within one.
	low, high := max(0, from-reach), min(r.Len(), to+reach)
	ahead, first := headOf(r.root, low)
	last, behind := tailOf(r.root, high)
	middle := first + r.Text(low, from) + text + r.Text(to, high) + last
	return &Rope{join(join(ahead, build(middle)), behind)}, nil
}

// Place tells where a byte stands.
func (r *Rope) Place(at int) api.Place {
	here := seek(r.root, func(m measure) bool { return m.bytes <= at })
	begin := r.lineBegin(here.breaks)
	return api.Place{Line: here.breaks, Rune: here.runes - begin.runes, Unit: here.units - begin.units}
}

// At gives where a character stands, by units.
func (r *Rope) At(line, unit int) int {
	return r.find(line, unit, func(m measure) int { return m.units })
}

// RuneAt gives where a character stands, by characters.
func (r *Rope) RuneAt(line, n int) int {
	return r.find(line, n, func(m measure) int { return m.runes })
}

// has tells whether there are bytes from from to ahead of to.
func (r *Rope) has(from, to int) bool { return 0 <= from && from <= to && to <= r.Len() }

// find gives where the character begins that has, as count counts, n ahead of it in a line.
func (r *Rope) find(line, n int, count func(measure) int) int {
	if line < 0 {
		return 0
	}
	if line >= r.Lines() {
		return r.Len()
	}
	begin, end := r.lineBegin(line), r.lineEnd(line)
	n = max(n, 0)
	if n >= count(end)-count(begin) {
		return end.bytes
	}
	most := count(begin) + n
	return seek(r.root, func(m measure) bool { return count(m) <= most }).bytes
}

// lineBegin measures what stands ahead of a line that is there.
func (r *Rope) lineBegin(line int) measure {
	if line == 0 {
		return measure{}
	}
	return r.lineEnd(line - 1).plus(lineBreak())
}

// lineEnd measures what stands ahead of a line's byte 10, or of the text's end.
func (r *Rope) lineEnd(line int) measure {
	return seek(r.root, func(m measure) bool { return m.breaks <= line })
}
