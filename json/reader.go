package json

import (
	"strconv"
	"strings"

	"cashier/utf"
)

const (
	blanks = " \t\n\r"
	quote  = `"`

	escapeLetters = `"\/bfnrt` // behind a backslash
	escapeMeant   = "\"\\/\b\f\n\r\t"

	unitMark   = `\u`
	unitDigits = 4
)

// reader is a text of which a part is read.
type reader struct {
	rest string // what isn't read yet
	row  []Node // what was read; End is missing in what is open
	open int    // the place of the inmost array or object that is open, or none
	lone bool   // whether a lone surrogate was read
}

// whole reads the text to its end, and tells whether it is a JSON text.
func (r *reader) whole() bool {
values:
	for r.value() {
		if r.begun() && !r.closed() {
			continue values
		}
		for r.open != none {
			if r.passed(",") {
				continue values
			}
			if !r.closed() {
				return false
			}
		}
		return strings.TrimLeft(r.rest, blanks) == ""
	}
	return false
}

// passed reads blanks and the sign, if that is what comes.
func (r *reader) passed(sign string) bool {
	rest, ok := strings.CutPrefix(strings.TrimLeft(r.rest, blanks), sign)
	if ok {
		r.rest = rest
	}
	return ok
}

// begun tells whether the value read last is open, and nothing within it read.
func (r *reader) begun() bool { return r.open == len(r.row)-1 }

// closed reads the sign that ends the inmost value that is open, if that is
// what comes.
func (r *reader) closed() bool {
	n := &r.row[r.open]
	sign := "]"
	if n.Kind == Object {
		sign = "}"
	}
	if !r.passed(sign) {
		return false
	}
	n.End = len(r.row)
	r.open = n.Parent
	return true
}

// value reads a value, with its name where it is a member, up to where what
// is within it begins.
func (r *reader) value() bool {
	name, ok := r.name()
	if !ok {
		return false
	}
	kind, text, ok := r.content()
	if !ok {
		return false
	}
	at := len(r.row)
	r.row = append(r.row, Node{Kind: kind, Key: name, Text: text, Parent: r.open, End: at + 1})
	if kind == Array || kind == Object {
		r.open = at
	}
	return true
}

// name reads a member's name and its colon; nothing, where no member is to
// come.
func (r *reader) name() (string, bool) {
	if r.open == none || r.row[r.open].Kind != Object {
		return "", true
	}
	if !r.passed(quote) {
		return "", false
	}
	name, ok := r.quoted()
	return name, ok && r.passed(":")
}

// content reads what kind of value comes, and the text that it has.
func (r *reader) content() (int, string, bool) {
	switch {
	case r.passed("["):
		return Array, "", true
	case r.passed("{"):
		return Object, "", true
	case r.passed("null"):
		return Null, "", true
	case r.passed("false"):
		return False, "", true
	case r.passed("true"):
		return True, "", true
	case r.passed(quote):
		text, ok := r.quoted()
		return String, text, ok
	}
	text, ok := r.numeral()
	return Number, text, ok
}

// quoted reads what stands behind a quote, up to behind the one that ends it,
// and gives what is meant.
func (r *reader) quoted() (string, bool) {
	var meant strings.Builder
	for r.rest != "" {
		first := r.rest[0]
		switch {
		case first < ' ':
			return "", false
		case r.rest[:1] == quote:
			r.rest = r.rest[1:]
			return meant.String(), true
		case first == '\\':
			piece, ok := r.escape()
			if !ok {
				return "", false
			}
			meant.WriteString(piece)
		default:
			meant.WriteByte(first)
			r.rest = r.rest[1:]
		}
	}
	return "", false
}

// escape reads a backslash and what belongs to it.
func (r *reader) escape() (string, bool) {
	if first, ok := r.unit(); ok {
		return r.point(first), true
	}
	if len(r.rest) < 2 {
		return "", false
	}
	at := strings.IndexByte(escapeLetters, r.rest[1])
	if at < 0 {
		return "", false
	}
	r.rest = r.rest[2:]
	return escapeMeant[at : at+1], true
}

// unit reads a mark and its digits of base sixteen, if they come.
func (r *reader) unit() (uint16, bool) {
	tail, ok := strings.CutPrefix(r.rest, unitMark)
	if !ok || len(tail) < unitDigits {
		return 0, false
	}
	n, err := strconv.ParseUint(tail[:unitDigits], 16, 16)
	if err != nil {
		return 0, false
	}
	r.rest = tail[unitDigits:]
	return uint16(n), true
}

// point gives the code point that the unit is, with the unit behind it if they
// are a pair; none, where it is lone.
func (r *reader) point(first uint16) string {
	if utf.Surrogate(first) == 0 {
		return utf.Put(rune(first))
	}
	second, _ := r.unit() // 0, where none comes, makes no pair either
	point, ok := utf.Pair(first, second)
	if !ok {
		// The second one may belong elsewhere, but of a text with a lone one
		// nothing is asked any more but its form.
		r.lone = true
		return ""
	}
	return utf.Put(point)
}

// numeral reads a number's text.
func (r *reader) numeral() (string, bool) {
	start := strings.TrimLeft(r.rest, blanks)
	rest, ok := pastNumeral(start)
	if !ok {
		return "", false
	}
	r.rest = rest
	return start[:len(start)-len(rest)], true
}

// Numeral tells whether the text is a number's.
func Numeral(s string) bool {
	rest, ok := pastNumeral(s)
	return ok && rest == ""
}

// pastNumeral gives what stands behind the number's text that s begins with.
func pastNumeral(s string) (string, bool) {
	s = strings.TrimPrefix(s, "-")
	rest, ok := strings.CutPrefix(s, "0")
	if !ok {
		rest, ok = pastDigits(s)
	}
	// A point or an e that no digits follow makes no JSON text, whatever
	// comes, so nothing is lost by not turning back there.
	if ok && strings.HasPrefix(rest, ".") {
		rest, ok = pastDigits(rest[1:])
	}
	if ok && (strings.HasPrefix(rest, "e") || strings.HasPrefix(rest, "E")) {
		rest, ok = pastDigits(pastSign(rest[1:]))
	}
	return rest, ok
}

func pastDigits(s string) (string, bool) {
	rest := strings.TrimLeft(s, "0123456789")
	return rest, rest != s
}

func pastSign(s string) string {
	if strings.HasPrefix(s, "+") || strings.HasPrefix(s, "-") {
		return s[1:]
	}
	return s
}
