package infer

import (
	"math"
	"slices"
)

// Groups gives the groups of defs (Y2), each behind those to which its defs lead; the defs of each in their order.
func (w *Workspace) Groups() [][]int {
	g := w.grouping()
	for d := range w.Defs {
		if g.number[d] == 0 {
			g.visit(d)
		}
	}
	return g.groups
}

// Group gives that of a def alone, which is complete when all others to which it leads are.
func (w *Workspace) Group(d int) []int {
	g := w.grouping()
	g.visit(d)
	return g.groups[len(g.groups)-1]
}

// grouping goes from def to def, and remembers those on the way whose group is not yet known.
// A group is complete when all that its first def leads to has been seen, and nothing of it led further ahead on the way.
type grouping struct {
	defs   []*Def
	seen   int
	number []int // as which one each def was seen; 0: not yet; gone: its group is known
	least  []int // the least number on the way to which each def leads
	way    []int
	groups [][]int
}

func (w *Workspace) grouping() *grouping {
	return &grouping{defs: w.Defs, number: make([]int, len(w.Defs)), least: make([]int, len(w.Defs))}
}

// gone is a number that is below none.
const gone = math.MaxInt

func (g *grouping) visit(d int) {
	g.seen++
	g.number[d], g.least[d] = g.seen, g.seen
	ahead := len(g.way)
	g.way = append(g.way, d)
	for _, to := range g.defs[d].leads {
		if g.number[to] == 0 {
			g.visit(to)
			g.least[d] = min(g.least[d], g.least[to])
		} else {
			g.least[d] = min(g.least[d], g.number[to])
		}
	}
	if g.least[d] == g.number[d] {
		g.close(ahead)
	}
}

// close makes a group of the last defs on the way.
func (g *grouping) close(ahead int) {
	group := slices.Clone(g.way[ahead:])
	slices.Sort(group)
	g.way = g.way[:ahead]
	for _, d := range group {
		g.number[d] = gone
	}
	g.groups = append(g.groups, group)
}
