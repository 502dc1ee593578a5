package rope

import (
	"strings"
	"unicode/utf8"

	"amanuensis/api"
)

// model answers what the chapter says by going through the whole text, so that ropes can be held against it.
type model string

// letter is a character of a text: where it begins, how many bytes and units it has.
type letter struct{ at, size, units int }

func (m model) letters() []letter {
	var out []letter
	for at := 0; at < len(m); {
		c, size := utf8.DecodeRuneInString(string(m[at:]))
		units := 1
		if c > 0xFFFF {
			units = 2
		}
		out = append(out, letter{at, size, units})
		at += size
	}
	return out
}

func (m model) lines() int { return strings.Count(string(m), "\n") + 1 }

func (m model) text(from, to int) string {
	if from < 0 || from > to || to > len(m) {
		return ""
	}
	return string(m[from:to])
}

func (m model) char(at int) (rune, int) {
	if at < 0 || at >= len(m) {
		return 0, 0
	}
	return utf8.DecodeRuneInString(string(m[at:]))
}

func (m model) place(at int) api.Place {
	var p api.Place
	for _, l := range m.letters() {
		if max(at, 0) < l.at+l.size {
			break
		}
		p.Rune++
		p.Unit += l.units
		if m[l.at] == '\n' {
			p = api.Place{Line: p.Line + 1}
		}
	}
	return p
}

// find is At, or RuneAt if every character counts as one.
func (m model) find(line, n int, one bool) int {
	if line < 0 {
		return 0
	}
	here, left := 0, max(n, 0)
	for _, l := range m.letters() {
		if here == line {
			units := l.units
			if one {
				units = 1
			}
			if m[l.at] == '\n' || left < units {
				return l.at
			}
			left -= units
		}
		if m[l.at] == '\n' {
			here++
		}
	}
	return len(m)
}
