package wire

import (
	"strconv"
	"strings"

	"amanuensis/api"
)

// mostDigits is how many a number may have.
const mostDigits = 18

// source is a text that is read as a value, from the left.
type source struct {
	text string
	at   int // how much is read
	deep int // in how many lists and maps that ends
}

// fault ends the reading of a text, by a panic: where, and what is wrong.
type fault struct {
	at   int
	what api.Errno
}

// message reads a value that is all of the text.
func (s *source) message() (j api.Json, at int, err error) {
	defer func() {
		if r := recover(); r != nil {
			f, ok := r.(fault)
			if !ok {
				panic(r)
			}
			j, at, err = api.Json{}, f.at, f.what
		}
	}()
	j = s.value()
	s.blanks()
	if s.at < len(s.text) {
		s.stop()
	}
	return j, 0, nil
}

// stop ends the reading, since nothing can be gone on with.
func (s *source) stop() { panic(fault{s.at, api.ErrSyntax}) }

// next gives the byte that is not read yet; at the end 0, which can be gone on with nowhere, either.
func (s *source) next() byte {
	if s.at == len(s.text) {
		return 0
	}
	return s.text[s.at]
}

func (s *source) blanks() {
	for isBlank(s.next()) {
		s.at++
	}
}

func isBlank(c byte) bool { return c == ' ' || c == '\t' || c == '\n' || c == '\r' }

func isDigit(c byte) bool { return '0' <= c && c <= '9' }

// value reads one, with the blanks ahead of it.
func (s *source) value() (j api.Json) {
	s.blanks()
	switch c := s.next(); {
	case c == 'n':
		s.word("null")
	case c == 'f':
		j.Kind = api.JBool
		s.word("false")
	case c == 't':
		j.Kind, j.Num = api.JBool, 1
		s.word("true")
	case c == '-' || isDigit(c):
		j.Kind, j.Num = api.JNum, s.number()
	case c == '"':
		j.Kind, j.Text = api.JText, s.quoted()
	case c == '[':
		j.Kind, j.Kids = api.JList, s.list()
	case c == '{':
		j.Kind = api.JMap
		j.Keys, j.Kids = s.pairs()
	default:
		s.stop()
	}
	return j
}

func (s *source) word(word string) {
	if !strings.HasPrefix(s.text[s.at:], word) {
		s.stop()
	}
	s.at += len(word)
}

func (s *source) number() int {
	from := s.at
	if s.next() == '-' {
		s.at++
	}
	first := s.at
	for isDigit(s.next()) {
		s.at++
	}
	count := s.at - first
	if count == 0 {
		s.stop()
	}
	if count > mostDigits || count > 1 && s.text[first] == '0' {
		panic(fault{from, api.ErrSyntax})
	}
	n, _ := strconv.Atoi(s.text[from:s.at]) // so few digits are never too many for it
	return n
}

func (s *source) list() (kids []api.Json) {
	s.parts(']', func() { kids = append(kids, s.value()) })
	return kids
}

func (s *source) pairs() (keys []string, kids []api.Json) {
	had := map[string]struct{}{}
	s.parts('}', func() {
		keys = append(keys, s.key(had))
		s.sign(':')
		kids = append(kids, s.value())
	})
	return keys, kids
}

// key reads one that the map has not had yet.
func (s *source) key(had map[string]struct{}) string {
	s.blanks()
	from := s.at
	if s.next() != '"' {
		s.stop()
	}
	key := s.quoted()
	if _, twice := had[key]; twice {
		panic(fault{from, api.ErrTwice})
	}
	had[key] = struct{}{}
	return key
}

// parts reads what stands from a `[` or `{`, which is next, to the sign that closes it: parts, each read by a call, with `,` between.
func (s *source) parts(end byte, part func()) {
	if s.deep == api.MaxDeep {
		panic(fault{s.at, api.ErrFull})
	}
	s.deep++
	s.at++
	if !s.has(end) {
		part()
		for s.has(',') {
			part()
		}
		s.sign(end)
	}
	s.deep--
}

// has reads a sign, with the blanks ahead of it, if it is next.
func (s *source) has(sign byte) bool {
	s.blanks()
	if s.next() != sign {
		return false
	}
	s.at++
	return true
}

// sign reads one that has to be next.
func (s *source) sign(sign byte) {
	if !s.has(sign) {
		s.stop()
	}
}
