package query

import (
	"fmt"
	"math/big"
	"slices"
	"strings"
	"testing"

	"amanuensis/api"
)

// slow is a sheet as the chapter tells it, brought up to date by one alone.
type slow struct {
	rules  []api.Rule
	inputs []int
	ran    []bool
	had    []told
	led    [][]step
	fresh  []bool
	doing  []bool
	runs   []int
}

type told struct {
	number int
	ring   bool
}

type step struct {
	key int
	had told
}

func slowOf(rules []api.Rule) *slow {
	n := len(rules)
	return &slow{rules, make([]int, n), make([]bool, n), make([]told, n), make([][]step, n), make([]bool, n), make([]bool, n), make([]int, n)}
}

func (s *slow) clone() *slow {
	return &slow{s.rules, slices.Clone(s.inputs), slices.Clone(s.ran), slices.Clone(s.had), slices.Clone(s.led), slices.Clone(s.fresh), slices.Clone(s.doing), slices.Clone(s.runs)}
}

func (s *slow) set(k, v int) {
	if s.inputs[k] != v {
		s.inputs[k] = v
		clear(s.fresh)
	}
}

// bring brings a cell up to date.
func (s *slow) bring(k int) told {
	switch {
	case s.rules[k].Op == api.QInput:
		return told{number: s.inputs[k]}
	case s.doing[k]:
		return told{ring: true}
	case s.fresh[k]:
		return s.had[k]
	}
	s.doing[k] = true
	if !s.ran[k] || s.another(k) {
		s.runs[k]++
		s.ran[k] = true
		var led []step
		s.had[k] = ruled(s.rules[k], func(at int) told {
			out := s.bring(at)
			led = append(led, step{at, out})
			return out
		})
		s.led[k] = led
	}
	s.doing[k], s.fresh[k] = false, true
	return s.had[k]
}

func (s *slow) another(k int) bool {
	for _, l := range s.led[k] {
		if s.bring(l.key) != l.had {
			return true
		}
	}
	return false
}

// anew gives the outcome of a cell with nothing that is remembered; path: who is led to it.
func (s *slow) anew(k int, path []int) told {
	if s.rules[k].Op == api.QInput {
		return told{number: s.inputs[k]}
	}
	if slices.Contains(path, k) {
		return told{ring: true}
	}
	return ruled(s.rules[k], func(at int) told { return s.anew(at, append(path[:len(path):len(path)], k)) })
}

// ruled does a rule.
func ruled(r api.Rule, look func(int) told) told {
	a := look(r.A)
	if a.ring || r.Op == api.QLow {
		return told{wrapped(big.NewInt(int64(a.number)), 4), a.ring} // of a ring: 0
	}
	if r.Op == api.QPick && a.number == 0 {
		return look(r.C)
	}
	b := look(r.B)
	if b.ring || r.Op == api.QPick {
		return b
	}
	x, y := big.NewInt(int64(a.number)), big.NewInt(int64(b.number))
	switch r.Op {
	case api.QAdd:
		return told{number: wrapped(x.Add(x, y), 1000003)}
	case api.QMul:
		return told{number: wrapped(x.Mul(x, y), 1000003)}
	}
	return told{number: max(0, y.Cmp(x))}
}

func wrapped(n *big.Int, by int64) int {
	return int(n.Mod(n, big.NewInt(by)).Int64())
}

// needs gives how many runs a question takes.
func (s *slow) needs(k int) int {
	c, count := s.clone(), 0
	c.bring(k)
	for i := range c.runs {
		count += c.runs[i] - s.runs[i]
	}
	return count
}

// play does a call as the function of this name for a Sheet does.
func (s *slow) play(call string) string {
	word, rest, _ := strings.Cut(call, " ")
	var n []int
	for _, f := range strings.Fields(rest) {
		k := 0
		fmt.Sscan(f, &k)
		n = append(n, k)
	}
	switch word {
	case "set":
		s.set(n[0], n[1])
		return "OK"
	case "some":
		if s.needs(n[0]) > n[1] {
			return "ErrCancel"
		}
		fallthrough
	case "get":
		return s.bring(n[0]).text()
	case "crew":
		numbers, errs := []int{}, []string{}
		for _, k := range n[1:] {
			out := s.bring(k)
			numbers = append(numbers, out.number)
			errs = append(errs, []string{"OK", "ErrRing"}[truth(out.ring)])
		}
		return fmt.Sprint(numbers, errs)
	}
	return fmt.Sprint(s.runs)
}

func (o told) text() string {
	if o.ring {
		return "ErrRing"
	}
	return fmt.Sprint(o.number)
}

// dice gives numbers that are the same in each run.
type dice uint64

func (d *dice) roll(n int) int {
	*d = *d*6364136223846793005 + 1442695040888963407
	return int(uint64(*d) >> 33 % uint64(n))
}

// rules gives some: picks are frequent, since they lead elsewhere; reach: how far behind a cell those may stand that it looks at,
// besides all that stand ahead (0: there is no ring).
func (d *dice) rules(count, reach int) []api.Rule {
	rules := make([]api.Rule, count)
	for k := range rules {
		op := []int{api.QInput, api.QAdd, api.QMul, api.QLess, api.QPick, api.QPick, api.QPick, api.QLow, api.QLow}[d.roll(9)]
		if k == 0 || k == count/2 {
			op = api.QInput
		}
		at := func() int { return max(0, min(k-1-d.roll(min(k+1, 9))+d.roll(reach+1), count-1)) }
		rules[k] = api.Rule{Op: op, A: at(), B: at(), C: at()}
	}
	return rules
}

// script gives calls; those of crews have their workers filled in later.
func (d *dice) script(rules []api.Rule, count int) []string {
	var in []int
	for k, r := range rules {
		if r.Op == api.QInput {
			in = append(in, k)
		}
	}
	var calls []string
	for range count {
		k := d.roll(len(rules))
		switch d.roll(8) {
		case 0, 1, 2:
			calls = append(calls, fmt.Sprint("set ", in[d.roll(len(in))], " ", []int{0, 0, 1, 2, -1, 1 << 40}[d.roll(6)]))
		case 3:
			calls = append(calls, fmt.Sprint("get ", k))
		case 4:
			calls = append(calls, fmt.Sprint("some ", k, " ", d.roll(7)))
		default:
			call := "crew %d"
			for range d.roll(2 * len(rules)) {
				call += fmt.Sprint(" ", d.roll(len(rules)))
			}
			calls = append(calls, call)
		}
	}
	return calls
}

// Whatever is asked, and by however many workers: answers and runs are those of the model.
func TestQ5AsTheModel(t *testing.T) {
	d := dice(9)
	within(t, func() {
		for i := range 400 {
			rules := d.rules(2+d.roll([]int{6, 14, 62}[i%3]), []int{0, 2, 4, 12}[i%4])
			sameAsModel(t, rules, d.script(rules, 30))
		}
	})
}

func sameAsModel(t *testing.T, rules []api.Rule, script []string) {
	model := slowOf(rules)
	var sheets []*Sheet
	for range api.MaxCrew {
		s, err := New(rules)
		if err != nil {
			t.Error(err)
			return
		}
		sheets = append(sheets, s)
	}
	for _, call := range script {
		want := model.play(call) + "; " + model.play("runs")
		for i, s := range sheets {
			if got := play(s, strings.ReplaceAll(call, "%d", fmt.Sprint(i+1))+"; runs"); got != want {
				t.Errorf("%v, %q to %s, %d workers: got %s, want %s", rules, script, call, i+1, got, want)
				return
			}
		}
	}
}

// What is remembered comes to what would be found anew, in whatever order cells are asked.
func TestQ3AsFoundAnew(t *testing.T) {
	d := dice(3)
	rings, numbers := 0, 0
	for i := range 3000 {
		rules := d.rules(2+d.roll(10), []int{0, 2, 4, 12}[i%4])
		model, s := slowOf(rules), sheet(t, rules...)
		for range 6 {
			play(s, d.script(rules, 1)[0]) // a crew of no workers: ErrRange
			for k, r := range rules {
				if r.Op == api.QInput {
					model.inputs[k], _ = s.Get(k)
				}
			}
			k := d.roll(len(rules))
			out := model.anew(k, nil)
			rings, numbers = rings+truth(out.ring), numbers+truth(!out.ring)
			if got := play(s, fmt.Sprint("get ", k)); got != out.text() {
				t.Fatalf("%v, %v: cell %d: got %s, want %s", rules, model.inputs, k, got, out.text())
			}
		}
	}
	if rings < 2000 || numbers < 2000 {
		t.Errorf("%d rings, %d numbers: the rules are too much of one kind", rings, numbers)
	}
}

// Great rings and wide sheets, each many times, by all workers: so they meet in many ways.
func TestQ5CrewsThatMeet(t *testing.T) {
	var all []int
	for k := range api.MaxKeys {
		all = append(all, k)
	}
	ring := func(k int) api.Rule { return low((k + 1) % api.MaxKeys) }
	web := func(k int) api.Rule { return add((k*7+1)%api.MaxKeys, (k*5+3)%api.MaxKeys) }
	gate := func(k int) api.Rule {
		if k == 0 {
			return input()
		}
		return pick(0, max(k-1, 0), k%(api.MaxKeys-1)+1)
	}
	chain := func(k int) api.Rule {
		if k == 0 {
			return input()
		}
		return add(k-1, k/2)
	}
	d := dice(5)
	within(t, func() {
		for _, rule := range []func(int) api.Rule{ring, web, gate, chain} {
			var rules []api.Rule
			for k := range api.MaxKeys {
				rules = append(rules, rule(k))
			}
			for range 60 {
				for i := range all {
					j := d.roll(i + 1)
					all[i], all[j] = all[j], all[i]
				}
				keys := strings.Trim(fmt.Sprint(all), "[]")
				sameAsModel(t, rules, []string{"crew %d " + keys, "crew %d " + keys})
				if rules[0].Op == api.QInput {
					sameAsModel(t, rules, []string{"set 0 1", "crew %d " + keys, "set 0 0", "crew %d " + keys, "set 0 2", "crew %d " + keys})
				}
			}
		}
	})
}
