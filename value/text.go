package value

import (
	"strconv"
	"strings"

	"amanuensis/api"
	"amanuensis/lex"
)

// text gives a value as text; false, if that is too long.
func text(v value) (string, bool) {
	w := &writer{}
	if !w.value(v) {
		return "", false
	}
	return w.out.String(), true
}

// writer writes a value, as long as it is not too long: one that holds another one twice, and so on, has no end to speak of.
type writer struct{ out strings.Builder }

// add writes a piece; false, if there is no place for it.
func (w *writer) add(piece string) bool {
	if w.out.Len()+len(piece) > api.MaxFile {
		return false
	}
	w.out.WriteString(piece)
	return true
}

func (w *writer) value(v value) bool {
	switch v := v.(type) {
	case int:
		return w.add(strconv.Itoa(v))
	case bool:
		return w.add(strconv.FormatBool(v))
	case *words:
		return w.add(lex.Quote(v.written()))
	case list:
		return w.list(v)
	default:
		return w.add("fun")
	}
}

func (w *writer) list(l list) bool {
	if !w.add("[") {
		return false
	}
	for i, v := range l {
		if i > 0 && !w.add(", ") || !w.value(v) {
			return false
		}
	}
	return w.add("]")
}
