package value

import "amanuensis/api"

// combined gives what a sign makes of two values.
func (m *machine) combined(sign string, left, right value) (value, api.Errno) {
	switch sign {
	case "==":
		return m.same(left, right)
	case "++":
		return joined(left, right)
	default:
		return reckoned(sign, left, right)
	}
}

func joined(left, right value) (value, api.Errno) {
	a, isText := left.(*words)
	b, isTextToo := right.(*words)
	if !isText || !isTextToo {
		return nil, api.ErrStuck
	}
	if a.size+b.size > api.MaxFile {
		return nil, api.ErrFull
	}
	return a.join(b), api.OK
}

// reckoned gives what a sign makes of two numbers.
func reckoned(sign string, left, right value) (value, api.Errno) {
	a, isNumber := left.(int)
	b, isNumberToo := right.(int)
	if !isNumber || !isNumberToo {
		return nil, api.ErrStuck
	}
	if sign == "<" {
		return a < b, api.OK
	}
	n, ok := reckon(sign, a, b)
	if !ok {
		return nil, api.ErrStuck
	}
	return n, api.OK
}

// reckon gives a sum, a difference or a product; false, if it has not 64 bits.
func reckon(sign string, a, b int) (int, bool) {
	switch sign {
	case "+":
		n := a + b
		return n, (n > a) == (b > 0)
	case "-":
		n := a - b
		return n, (n < a) == (b > 0)
	default:
		return product(a, b)
	}
}

// product looks at the signs, too: the least number by -1 is it again, if what does not fit is left out.
func product(a, b int) (int, bool) {
	if a == 0 || b == 0 {
		return 0, true
	}
	n := a * b
	return n, n/b == a && (n < 0) == ((a < 0) != (b < 0))
}

// same tells whether two values are the same.
func (m *machine) same(left, right value) (bool, api.Errno) {
	switch a := left.(type) {
	case int:
		if b, ok := right.(int); ok {
			return a == b, api.OK
		}
	case bool:
		if b, ok := right.(bool); ok {
			return a == b, api.OK
		}
	case *words:
		if b, ok := right.(*words); ok {
			return a.size == b.size && m.recent.written(a) == m.recent.written(b), api.OK
		}
	case list:
		if b, ok := right.(list); ok {
			return m.sameParts(a, b)
		}
	}
	return false, api.ErrStuck
}

// sameParts tells whether two lists are the same.
func (m *machine) sameParts(a, b list) (bool, api.Errno) {
	if len(a) != len(b) {
		return false, api.OK
	}
	for i := range a {
		if wrong := m.burn(); wrong != api.OK {
			return false, wrong
		}
		if same, wrong := m.same(a[i], b[i]); !same || wrong != api.OK {
			return false, wrong
		}
	}
	return true, api.OK
}
