package wire

import (
	"strconv"
	"strings"

	"amanuensis/api"
)

// mostNumber is the greatest one that has no more than mostDigits.
const mostNumber = 999_999_999_999_999_999

// printer writes a value, till something is wrong.
type printer struct {
	text strings.Builder
}

// value writes one that stands in so many lists and maps.
func (p *printer) value(j api.Json, deep int) error {
	if !sound(j) {
		return api.ErrSyntax
	}
	if deep == api.MaxDeep && (j.Kind == api.JList || j.Kind == api.JMap) {
		return api.ErrFull
	}
	switch j.Kind {
	case api.JNull:
		p.text.WriteString("null")
	case api.JBool:
		p.text.WriteString(strconv.FormatBool(j.Num == 1))
	case api.JNum:
		p.text.WriteString(strconv.Itoa(j.Num))
	case api.JText:
		p.quoted(j.Text)
	case api.JList:
		return p.list(j.Kids, deep+1)
	case api.JMap:
		return p.pairs(j.Keys, j.Kids, deep+1)
	}
	return nil
}

// sound tells whether the fields of a value, but for what its Kids and its Keys are, are those of one that Parse can give.
func sound(j api.Json) bool {
	noNum, noText, noKeys, noKids := j.Num == 0, j.Text == "", len(j.Keys) == 0, len(j.Kids) == 0
	switch j.Kind {
	case api.JNull:
		return noNum && noText && noKeys && noKids
	case api.JBool:
		return (noNum || j.Num == 1) && noText && noKeys && noKids
	case api.JNum:
		return -mostNumber <= j.Num && j.Num <= mostNumber && noText && noKeys && noKids
	case api.JText:
		return noNum && noKeys && noKids
	case api.JList:
		return noNum && noText && noKeys
	case api.JMap:
		return noNum && noText && len(j.Keys) == len(j.Kids)
	}
	return false
}

func (p *printer) list(kids []api.Json, deep int) error {
	p.text.WriteByte('[')
	for k, kid := range kids {
		p.comma(k)
		if err := p.value(kid, deep); err != nil {
			return err
		}
	}
	p.text.WriteByte(']')
	return nil
}

func (p *printer) pairs(keys []string, kids []api.Json, deep int) error {
	had := map[string]struct{}{}
	p.text.WriteByte('{')
	for k, key := range keys {
		if _, twice := had[key]; twice {
			return api.ErrTwice
		}
		had[key] = struct{}{}
		p.comma(k)
		p.quoted(key)
		p.text.WriteByte(':')
		if err := p.value(kids[k], deep); err != nil {
			return err
		}
	}
	p.text.WriteByte('}')
	return nil
}

// comma writes what stands ahead of the k-th part.
func (p *printer) comma(k int) {
	if k > 0 {
		p.text.WriteByte(',')
	}
}

func (p *printer) quoted(text string) {
	p.text.WriteByte('"')
	from := 0
	for i := range len(text) {
		if e := escapeOf(text[i]); e != "" {
			p.text.WriteString(text[from:i])
			p.text.WriteString(e)
			from = i + 1
		}
	}
	p.text.WriteString(text[from:])
	p.text.WriteByte('"')
}
