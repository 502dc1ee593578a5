package run

import (
	"strconv"
	"strings"

	"amanuensis/api"
)

const (
	maxLines  = 2000
	maxLine   = 20000 // bytes of a line, without its end
	maxDigits = 9
)

// linesOf takes a text apart; ErrFull, if it has too many lines, or too long a one.
// Empty lines are among them, since they count.
func linesOf(text string) ([]string, error) {
	var lines []string
	for text != "" {
		line, rest, _ := strings.Cut(text, "\n")
		if len(lines) == maxLines || len(line) > maxLine {
			return nil, api.ErrFull
		}
		lines, text = append(lines, line), rest
	}
	return lines, nil
}

// numberOf reads a number; false, if a text is none.
func numberOf(text string) (int, bool) {
	n, err := strconv.Atoi(text)
	if err != nil || n < 0 || len(text) > maxDigits || strconv.Itoa(n) != text {
		return 0, false
	}
	return n, true
}
