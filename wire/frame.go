package wire

import (
	"bytes"
	"strconv"
	"strings"

	"amanuensis/api"
)

const (
	lengthName   = "Content-Length"
	lengthDigits = 10
	lineEnd      = "\r\n"
	maxLine      = 1000 // bytes of a line, without its end
)

// Frame puts a body into a frame.
func Frame(body string) string {
	return lengthName + ": " + strconv.Itoa(len(body)) + lineEnd + lineEnd + body
}

// Reader is fed with frames.
type Reader struct {
	frame
	wrong error // from then on nothing is read
}

// frame is what is there of one.
type frame struct {
	line   []byte // that has not ended yet
	told   bool   // a length was told
	length int    // the last one
	inBody bool   // the lines have ended
	body   strings.Builder
}

// New begins.
func New() *Reader { return &Reader{} }

// Feed takes bytes, and gives the bodies that are whole.
func (r *Reader) Feed(chunk string) ([]string, error) {
	var whole []string
	for r.wrong == nil {
		switch {
		case r.isWhole():
			whole = append(whole, r.body.String())
			r.frame = frame{}
		case chunk == "":
			return whole, nil
		case r.inBody:
			chunk = r.takeBody(chunk)
		default:
			chunk = r.takeLine(chunk)
		}
	}
	return whole, r.wrong
}

func (r *Reader) isWhole() bool { return r.inBody && r.body.Len() == r.length }

// takeBody takes what a chunk has of the body, and gives what stands behind that.
func (r *Reader) takeBody(chunk string) string {
	n := min(len(chunk), r.length-r.body.Len())
	r.body.WriteString(chunk[:n])
	return chunk[n:]
}

// takeLine takes what a chunk has of a line, and gives what stands behind that.
func (r *Reader) takeLine(chunk string) string {
	for i := range len(chunk) {
		r.line = append(r.line, chunk[i])
		if bytes.HasSuffix(r.line, []byte(lineEnd)) {
			line := string(r.line[:len(r.line)-len(lineEnd)])
			r.line = r.line[:0]
			r.endLine(line)
			return chunk[i+1:]
		}
		if tooLong(r.line) {
			r.fail(api.ErrFull)
			return ""
		}
	}
	return ""
}

// tooLong tells whether a line that has not ended must become too long, or is; a byte 13 that is its last one may belong to its end.
func tooLong(line []byte) bool {
	return len(bytes.TrimSuffix(line, []byte(lineEnd[:1]))) > maxLine
}

// endLine does what a line says.
func (r *Reader) endLine(line string) {
	if line == "" {
		r.endLines()
		return
	}
	name, rest, ok := strings.Cut(line, ":")
	if ok && name != lengthName {
		return
	}
	length, ok := lengthOf(rest) // without a `:` nothing stands behind it
	if !ok {
		r.fail(api.ErrSyntax)
		return
	}
	r.told, r.length = true, length
}

// endLines goes on to the body.
func (r *Reader) endLines() {
	if !r.told {
		r.fail(api.ErrSyntax)
		return
	}
	r.inBody = true
}

// lengthOf reads what stands behind the `:` of a length; false, if it is none.
func lengthOf(text string) (int, bool) {
	digits, ok := strings.CutPrefix(text, " ")
	if !ok || digits == "" || len(digits) > lengthDigits {
		return 0, false
	}
	n := 0
	for i := range len(digits) {
		if !isDigit(digits[i]) {
			return 0, false
		}
		n = n*10 + int(digits[i]-'0')
	}
	return n, true
}

// fail ends all reading; what was there of a frame is kept no longer.
func (r *Reader) fail(what api.Errno) { *r = Reader{wrong: what} }
