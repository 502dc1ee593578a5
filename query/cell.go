package query

import (
	"sync"

	"amanuensis/api"
)

// modulus is what sums and products are taken modulo.
const modulus = 1000003

// outcome is what a cell comes to: a number, or, with 0 for it, what is wrong.
type outcome struct {
	number int
	err    api.Errno
}

// lead is a cell to which a rule was led, and the outcome that it had then.
type lead struct {
	key int
	had outcome
}

// memory is what a cell remembers of the last run of its rule; an input has its number there.
type memory struct {
	ran     bool
	outcome outcome
	led     []lead // made by that run, and never changed
}

// cell is a rule. What the rule looks at is found by whoever asks for it first.
type cell struct {
	rule  api.Rule
	once  sync.Once
	looks []int
}

func (c *cell) looksAt() []int {
	c.once.Do(c.look)
	return c.looks
}

func (c *cell) look() {
	switch c.rule.Op {
	case api.QAdd, api.QMul, api.QLess:
		c.looks = []int{c.rule.A, c.rule.B}
	case api.QPick:
		c.looks = []int{c.rule.A, c.rule.B, c.rule.C}
	case api.QLow:
		c.looks = []int{c.rule.A}
	}
}

// next gives the cell to which the rule is led on, behind those to which it was led, if there is one.
func (c *cell) next(led []lead) (int, bool) {
	looks := c.looksAt()
	if c.rule.Op == api.QPick && len(led) > 0 {
		return c.picked(led[0].had.number), len(led) < 2
	}
	if len(led) == len(looks) {
		return 0, false
	}
	return looks[len(led)], true
}

func (c *cell) picked(number int) int {
	if number != 0 {
		return c.rule.B
	}
	return c.rule.C
}

// reckon gives what the rule makes of the numbers of all cells to which it was led.
func (c *cell) reckon(led []lead) int {
	first, last := led[0].had.number, led[len(led)-1].had.number
	switch c.rule.Op {
	case api.QAdd:
		return modulo(modulo(first, modulus)+modulo(last, modulus), modulus)
	case api.QMul:
		return modulo(modulo(first, modulus)*modulo(last, modulus), modulus)
	case api.QLess:
		return truth(first < last)
	case api.QPick:
		return last
	}
	return modulo(first, 4)
}

// modulo gives a number from 0 to ahead of the modulus, also of one below 0.
func modulo(n, by int) int {
	return (n%by + by) % by
}

func truth(ok bool) int {
	if ok {
		return 1
	}
	return 0
}
