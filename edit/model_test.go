package edit

import (
	"math"
	"strings"

	"amanuensis/api"
)

// deed is what an edit does, as E2 has it: of each byte whether it stays, and for each gap what is put in there.
type deed struct {
	stays []bool
	puts  []string
}

func deedOf(n int, e []api.Span) deed {
	d := deed{make([]bool, n), make([]string, n+1)}
	for i := range d.stays {
		d.stays[i] = true
	}
	for _, s := range e {
		d.puts[s.From] += s.Text
		for i := s.From; i < s.To; i++ {
			d.stays[i] = false
		}
	}
	return d
}

func (d deed) of(text string) string {
	var out strings.Builder
	for g, put := range d.puts {
		out.WriteString(put)
		if g < len(text) && d.stays[g] {
			out.WriteByte(text[g])
		}
	}
	return out.String()
}

// both is what two hands mean, as E5 has it.
func (d deed) both(o deed) deed {
	b := deed{make([]bool, len(d.stays)), make([]string, len(d.puts))}
	for i := range d.stays {
		b.stays[i] = d.stays[i] && o.stays[i]
	}
	for g := range d.puts {
		b.puts[g] = d.puts[g] + o.puts[g]
	}
	return b
}

// plain is the one edit that E3 tells of.
func (d deed) plain() []api.Span {
	n := len(d.stays)
	var out []api.Span
	taken := 0 // the bytes ahead of here have been taken out by a span already, or stay
	for g := 0; g <= n; g++ {
		byteOut := g < n && !d.stays[g] && g >= taken
		if d.puts[g] == "" && !byteOut {
			continue
		}
		to := g
		for to < n && !d.stays[to] && (to == g || d.puts[to] == "") {
			to++
		}
		out = append(out, api.Span{From: g, To: to, Text: d.puts[g]})
		taken = to
	}
	return out
}

// faultOf says E1 by its words.
func faultOf(n int, e []api.Span) error {
	for _, s := range e {
		if !(0 <= s.From && s.From <= s.To && s.To <= n) {
			return api.ErrRange
		}
	}
	if n < 0 {
		return api.ErrRange
	}
	for i := 1; i < len(e); i++ {
		if e[i].From < e[i-1].To {
			return api.ErrOrder
		}
	}
	return nil
}

// dice gives numbers that look random, and are the same in each run.
type dice uint64

func (d *dice) below(n int) int {
	*d = *d*6364136223846793005 + 1442695040888963407
	return int(uint64(*d) >> 33 % uint64(n))
}

func (d *dice) text(most int) string {
	out := make([]byte, d.below(most+1))
	for i := range out {
		out[i] = "abcdefgh\n\xc3\xa9"[d.below(11)]
	}
	return string(out)
}

// edit gives an edit of n bytes, often with spans that touch or do nothing.
func (d *dice) edit(n int) []api.Span {
	var out []api.Span
	at := 0
	for range d.below(6) {
		from := at
		if d.below(2) == 0 {
			from += d.below(n - at + 1)
		}
		to := from
		if d.below(3) > 0 {
			to += d.below(min(3, n-from) + 1)
		}
		out = append(out, api.Span{From: from, To: to, Text: d.text(3)})
		at = to
	}
	return out
}

// anything gives spans that are seldom an edit.
func (d *dice) anything(n int) []api.Span {
	odd := []int{-1, 0, 1, n - 1, n, n + 1, math.MinInt, math.MaxInt}
	out := d.edit(n)
	for range d.below(3) {
		if len(out) == 0 {
			break
		}
		s := &out[d.below(len(out))]
		if d.below(2) == 0 {
			s.From = odd[d.below(len(odd))]
		} else {
			s.To = odd[d.below(len(odd))]
		}
	}
	return out
}
