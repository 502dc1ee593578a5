package infer

import "amanuensis/api"

// renew gives the type of what is named, where its name stands: with new variables for those that belong to nothing around it.
func (f *finder) renew(b bound) *shape {
	r := &renewer{f, b.level, api.MaxParts, map[*shape]*shape{}}
	return r.shape(b.shape)
}

// renewer makes a type anew. That is one of an expression, and so may not have too many parts.
type renewer struct {
	at    *finder
	stay  int // variables that belong to so many lets, or less, stay what they are
	left  int
	fresh map[*shape]*shape
}

func (r *renewer) shape(t *shape) *shape {
	t = t.end()
	if t.level <= r.stay {
		return t
	}
	take(&r.left)
	if t.kind == open {
		return r.variable(t)
	}
	var parts []*shape
	for _, part := range t.parts {
		parts = append(parts, r.shape(part))
	}
	return r.at.make(t.kind, parts...)
}

func (r *renewer) variable(t *shape) *shape {
	if _, ok := r.fresh[t]; !ok {
		r.fresh[t] = r.at.open()
	}
	return r.fresh[t]
}
