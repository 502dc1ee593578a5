package colour

import (
	"slices"

	"amanuensis/api"
)

// Diff tells what has changed.
func Diff(a, b []api.Colour) (at, drop int, put []api.Colour) {
	at = sameAhead(a, b)
	a, b = a[at:], b[at:]
	behind := sameBehind(a, b)
	return at, len(a) - behind, slices.Concat(b[:len(b)-behind])
}

// sameAhead tells how many are the same, from the beginning of both on.
func sameAhead(a, b []api.Colour) int {
	n := 0
	for n < len(a) && n < len(b) && a[n] == b[n] {
		n++
	}
	return n
}

// sameBehind tells how many are the same, to the end of both.
func sameBehind(a, b []api.Colour) int {
	n := 0
	for n < len(a) && n < len(b) && a[len(a)-1-n] == b[len(b)-1-n] {
		n++
	}
	return n
}

// Patch changes what Diff tells.
func Patch(a []api.Colour, at, drop int, put []api.Colour) ([]api.Colour, error) {
	// not by at+drop, which may be more than a number can be
	if at < 0 || drop < 0 || drop > len(a)-at {
		return nil, api.ErrRange
	}
	return slices.Concat(a[:at], put, a[at+drop:]), nil
}
