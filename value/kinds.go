package value

// value is an int, a bool, a *words, a list or a *function.
type value any

// list is a list: its parts.
type list []value

// function is a function, and the blocks around it.
type function struct {
	body   *body
	around *block
}
