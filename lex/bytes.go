package lex

// kind of a byte, by what it begins where a word may begin.
type kind uint8

const (
	other kind = iota // nothing
	blank             // what is idle by itself
	remark
	opens
	closes
	quote
	digit // a number
	minus // a number or a name: the byte behind it says which
	plain // a name: letters, and the signs that stand in names
)

func kindOf(b byte) kind {
	switch {
	case b >= 'a' && b <= 'z', b >= 'A' && b <= 'Z':
		return plain
	case b >= '0' && b <= '9':
		return digit
	}
	switch b {
	case ' ', '\t', '\n':
		return blank
	case ';':
		return remark
	case '(':
		return opens
	case ')':
		return closes
	case '"':
		return quote
	case '-':
		return minus
	case '_', ':', '.', '#', '!', '?':
		return plain
	}
	return other
}

// inNames: is it a name's byte?
func inNames(b byte) bool {
	switch kindOf(b) {
	case digit, minus, plain:
		return true
	}
	return false
}

// standsFor: what a byte behind a backslash stands for together with it; false: it may not stand there.
func standsFor(b byte) (byte, bool) {
	switch b {
	case '"', '\\':
		return b, true
	case 'n':
		return '\n', true
	}
	return 0, false
}
