package base

import (
	"iter"
	"strings"

	"amanuensis/api"
)

// near is how many bytes at most stand between pieces that are replaced as one.
// To replace one goes through all tokens of the text: it is less to do to look at some of them anew.
const near = 100

// pieces gives the pieces of an edit of a text from behind: so what stands ahead keeps its place.
func pieces(text string, e []api.Span) iter.Seq[api.Span] {
	return func(yield func(api.Span) bool) {
		for end := len(e); end > 0; {
			begin := end - 1
			for begin > 0 && e[begin].From-e[begin-1].To <= near {
				begin--
			}
			if !yield(joined(text, e[begin:end])) {
				return
			}
			end = begin
		}
	}
}

// joined gives the one piece that does what some do.
func joined(text string, e []api.Span) api.Span {
	var out strings.Builder
	from, at := e[0].From, e[0].From
	for _, s := range e {
		out.WriteString(text[at:s.From])
		out.WriteString(s.Text)
		at = s.To
	}
	return api.Span{From: from, To: at, Text: out.String()}
}
