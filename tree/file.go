package tree

import "amanuensis/api"

// kid reads a kid of the root; something must be next.
func (r *reader) kid() kid {
	begin, b := r.at, &branch{}
	if r.atItem() {
		r.item(b)
	} else {
		r.junk(b)
	}
	return kid{b, r.at - begin}
}

// atItem tells whether an item begins with what is next.
func (r *reader) atItem() bool { return r.isNext("use", "pub", "def") }

// junk reads what begins no item, up to a `;`, or ahead of an item.
func (r *reader) junk(b *branch) {
	b.kind = api.NJunk
	for last := false; !last && r.more() && !r.atItem(); {
		last = r.isNext(";")
		r.take(b)
	}
}

func (r *reader) item(b *branch) {
	if r.isNext("pub") {
		r.take(b)
	}
	if r.isNext("use") {
		r.use(b)
	} else {
		r.def(b)
	}
}

func (r *reader) use(b *branch) {
	b.kind = api.NUse
	r.want(b, "use", aName, ".", aName)
	if r.isNext("as") {
		r.want(b, "as", aName)
	}
	r.want(b, ";")
}

func (r *reader) def(b *branch) {
	b.kind = api.NDef
	r.want(b, "def", aName)
	if r.isNext("(") {
		r.params(b)
	}
	r.want(b, "=")
	r.expression(b)
	r.want(b, ";")
}

func (r *reader) params(b *branch) {
	n := b.grow(api.NParams)
	r.want(n, "(")
	r.several(n, r.name, ")")
}

func (r *reader) name(b *branch) { r.want(b, aName) }

// several reads what stands up to the sign that closes it: nothing, or one thing, and others behind a `,`.
func (r *reader) several(b *branch, one func(*branch), end string) {
	if !r.isNext(end) {
		one(b)
		for r.isNext(",") {
			r.take(b)
			one(b)
		}
	}
	r.want(b, end)
}
