package value

import "strings"

// words is a text. One that is made of two has these, and is written out only where someone looks at it:
// a program may make very many long ones of few.
type words struct {
	size        int
	text        string // empty, if it is not written out
	left, right *words // nil, if it is not made of two
}

// short is up to how many bytes a text is written out at once: it takes hardly more memory so.
const short = 64

func plainWords(s string) *words { return &words{size: len(s), text: s} }

// join gives both texts, one behind the other.
// An empty one is left out: so no text is made of more others than it has bytes.
func (w *words) join(x *words) *words {
	if w.size == 0 {
		return x
	}
	if x.size == 0 {
		return w
	}
	both := &words{size: w.size + x.size, left: w, right: x}
	if both.size <= short {
		return plainWords(both.written())
	}
	return both
}

// isWritten tells whether the text is there; one that is made of two is not empty.
func (w *words) isWritten() bool { return w.left == nil || w.text != "" }

// written gives the text.
func (w *words) written() string {
	if w.isWritten() {
		return w.text
	}
	var out strings.Builder
	out.Grow(w.size)
	w.write(&out)
	return out.String()
}

func (w *words) write(out *strings.Builder) {
	if w.isWritten() {
		out.WriteString(w.text)
		return
	}
	w.left.write(out)
	w.right.write(out)
}

// shelf has the texts that were written out last. Who looks at one often finds it written;
// but no more than these are kept, since they take much more memory so.
type shelf struct {
	all  [16]*words
	next int
}

// written gives a text, which stays written out for a while.
func (s *shelf) written(w *words) string {
	if !w.isWritten() {
		w.text = w.written()
		s.put(w)
	}
	return w.text
}

// put puts a text in the place of the one that has been there longest.
func (s *shelf) put(w *words) {
	if old := s.all[s.next]; old != nil {
		old.text = ""
	}
	s.all[s.next] = w
	s.next = (s.next + 1) % len(s.all)
}
