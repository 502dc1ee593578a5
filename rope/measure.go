package rope

import "unicode/utf8"

// measure counts what a piece of a text has: bytes, bytes 10, characters and units.
type measure struct{ bytes, breaks, runes, units int }

// plus measures two pieces, one behind the other.
func (m measure) plus(o measure) measure {
	return measure{m.bytes + o.bytes, m.breaks + o.breaks, m.runes + o.runes, m.units + o.units}
}

// lineBreak measures a byte 10.
func lineBreak() measure { return measure{bytes: 1, breaks: 1, runes: 1, units: 1} }

// firstOf measures the first character of a text that is not empty.
func firstOf(text string) measure {
	c, size := utf8.DecodeRuneInString(text)
	if c == '\n' {
		return lineBreak()
	}
	return measure{bytes: size, runes: 1, units: Units(c)}
}

// Units tells how many units a character has.
func Units(c rune) int {
	if c > 0xFFFF {
		return 2
	}
	return 1
}

// longest measures the longest beginning of a text, made of whole characters, that fits behind what is ahead of it; together with that.
func longest(text string, ahead measure, fits func(measure) bool) measure {
	for len(text) > 0 {
		first := firstOf(text)
		next := ahead.plus(first)
		if !fits(next) {
			break
		}
		ahead = next
		text = text[first.bytes:]
	}
	return ahead
}

// measureOf measures a text.
func measureOf(text string) measure {
	return longest(text, measure{}, func(measure) bool { return true })
}

// reach is how many bytes ahead of a place a character that goes on across it can begin.
const reach = utf8.UTFMax - 1

// beginOf gives where the character begins in which the byte at stands.
// It is enough to look back a little: the first byte of a character of several bytes is never a later byte of another one.
func beginOf(text string, at int) int {
	for back := 1; back <= reach && back <= at; back++ {
		if _, size := utf8.DecodeRuneInString(text[at-back:]); size > back {
			return at - back
		}
	}
	return at
}
