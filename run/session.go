package run

import (
	"errors"
	"strconv"
	"strings"

	"amanuensis/api"
	"amanuensis/desk"
	"amanuensis/lex"
	"amanuensis/wire"
)

// session is a desk, and what has been answered so far.
type session struct {
	desk *desk.Desk
	out  strings.Builder
}

// answer does what a line says, and tells what is wrong with it; an empty one is passed over.
func (s *session) answer(line string) {
	if line != "" {
		s.out.WriteString(wrong(s.do(line)))
	}
}

// do does what a line says.
func (s *session) do(line string) error {
	word, rest, _ := strings.Cut(line, " ") // nothing behind a word, with a blank or without one, is neither a text nor a number
	switch word {
	case "push":
		if text, ok := lex.Unquote(rest); ok {
			return s.desk.Push(text)
		}
	case "note":
		if body, ok := lex.Unquote(rest); ok {
			return s.desk.Push(wire.Frame(body))
		}
	case "work":
		if n, ok := numberOf(rest); ok {
			s.work(n)
			return nil
		}
	}
	return api.ErrSyntax
}

// work lets the desk answer requests, and tells the answers, and how many wait then.
func (s *session) work(n int) {
	bodies, _ := wire.New().Feed(s.desk.Work(n)) // nothing goes out but whole frames
	for _, body := range bodies {
		s.out.WriteString(lex.Quote(body) + "\n")
	}
	s.out.WriteString("done " + strconv.Itoa(s.desk.Waiting()) + "\n")
}

// wrong gives the line that tells an error; nothing, if there is none.
func wrong(err error) string {
	var e api.Errno
	if !errors.As(err, &e) {
		return ""
	}
	return "error " + e.Error() + "\n"
}
