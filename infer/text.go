package infer

import (
	"strconv"
	"strings"
)

// text gives a type as text.
func text(t *shape) string {
	w := &writer{numbers: map[*shape]int{}}
	w.shape(t)
	return w.out.String()
}

// writer writes a type, and numbers its variables as they come.
type writer struct {
	out     strings.Builder
	numbers map[*shape]int
}

func (w *writer) shape(t *shape) {
	t = t.end()
	switch t.kind {
	case open:
		w.variable(t)
	case number:
		w.out.WriteString("int")
	case truth:
		w.out.WriteString("bool")
	case words:
		w.out.WriteString("text")
	case list:
		w.out.WriteString("[")
		w.shape(t.parts[0])
		w.out.WriteString("]")
	case function:
		w.function(t.parts)
	}
}

func (w *writer) function(parts []*shape) {
	last := len(parts) - 1
	w.out.WriteString("(")
	for i, part := range parts[:last] {
		if i > 0 {
			w.out.WriteString(", ")
		}
		w.shape(part)
	}
	w.out.WriteString(") -> ")
	w.shape(parts[last])
}

func (w *writer) variable(t *shape) {
	n, ok := w.numbers[t]
	if !ok {
		n = len(w.numbers)
		w.numbers[t] = n
	}
	w.out.WriteByte(byte('a' + n%26))
	if n >= 26 {
		w.out.WriteString(strconv.Itoa(n / 26))
	}
}
