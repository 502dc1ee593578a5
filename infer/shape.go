package infer

import "amanuensis/api"

// Kinds of shapes.
const (
	open     = iota // a variable
	number          // int
	truth           // bool
	words           // text
	list            // its part
	function        // what it is given, and then what it gives
)

// shape is a type, as far as it is known.
type shape struct {
	kind  int
	parts []*shape
	same  *shape // what it has turned out to be; nil: it is what it is
	level int    // no variable in it belongs to something that stands in the values of more lets than these
}

// end gives what a shape has turned out to be, and makes the way there shorter for who comes next.
func (t *shape) end() *shape {
	for t.same != nil {
		if t.same.same != nil {
			t.same = t.same.same
		}
		t = t.same
	}
	return t
}

// unite makes two types one; where that cannot be, it ends by a panic.
// It looks for no type that holds itself: since two types are one ahead of their parts, it does not go round in such a one.
func unite(a, b *shape) {
	a, b = a.end(), b.end()
	if a == b {
		return
	}
	if a.kind != open && b.kind == open {
		a, b = b, a
	}
	if a.kind != open && (a.kind != b.kind || len(a.parts) != len(b.parts)) {
		panic(api.ErrType)
	}
	b.lower(a.level) // the parts of a are lowered when they are united with those of b
	mine, theirs := a.parts, b.parts
	a.same, a.parts = b, nil // the parts may be many, and nobody asks for them any more
	for i, part := range mine {
		unite(part, theirs[i])
	}
}

// lower makes all variables of a type belong to what stands in the values of so few lets.
// A type that is there already has no part that is not: so each is gone through once a level at most, and no ring without end.
func (t *shape) lower(level int) {
	t = t.end()
	if t.level <= level {
		return
	}
	t.level = level
	for _, part := range t.parts {
		part.lower(level)
	}
}

// weigh ends by a panic, if a type has more than MaxParts parts; one that holds itself has.
func weigh(t *shape) {
	left := api.MaxParts
	t.count(&left)
}

func (t *shape) count(left *int) {
	take(left)
	for _, part := range t.end().parts {
		part.count(left)
	}
}

// take counts a part of the type of an expression.
func take(left *int) {
	if *left == 0 {
		panic(api.ErrType)
	}
	*left--
}
