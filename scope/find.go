package scope

import (
	"sort"

	"amanuensis/api"
	"amanuensis/lex"
)

// upTo gives the names, of all that Names gave, that begin at a place, or ahead of it.
func upTo(names []api.Use, file, at int) []api.Use {
	return names[:sort.Search(len(names), func(i int) bool {
		n := names[i]
		return n.File > file || n.File == file && n.At > at
	})]
}

// Within gives the names that begin in a piece of a file.
func Within(names []api.Use, file, from, to int) []api.Use {
	ahead := upTo(names, file, from-1)
	return upTo(names, file, to-1)[len(ahead):]
}

// Text gives that of a name, of a file's text and where it begins in it.
func Text(text string, at int) string { return text[at : at+lex.First(text[at:]).Len] }

// At gives the name of a file, which has this text, at whose beginning, in which, or right behind which a place stands (B3).
func At(names []api.Use, file int, text string, at int) (api.Use, bool) {
	some := upTo(names, file, at)
	if len(some) == 0 {
		return api.Use{}, false
	}
	last := some[len(some)-1]
	if last.File != file || last.At+len(Text(text, last.At)) < at {
		return api.Use{}, false
	}
	return last, true
}
