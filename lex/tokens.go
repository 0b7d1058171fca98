package lex

import (
	"iter"
	"strconv"
	"strings"

	"rota/api"
)

// none is the kind of what is no token.
const none = 0

// tokens are a text's, one by one; they end with one of kind none, where a byte
// begins no token. Their texts are pieces of s.
func tokens(s string) iter.Seq[api.Token] {
	return func(yield func(api.Token) bool) {
		blank := among(" \t\r")
		line, begin := 1, 0
		// barred is the place just behind the last number, where no word may begin.
		barred := -1
		at := 0
	next:
		for at < len(s) {
			switch c := s[at]; {
			case c == '\n':
				line, begin = line+1, at+1
				fallthrough
			case blank(c):
				at++
				continue
			case c == '#':
				for ; at < len(s); at++ {
					if s[at] == '\n' {
						continue next
					}
				}
				return
			}
			t := first(s[at:])
			if t.Kind == api.TokWord && at == barred {
				t = api.Token{}
			}
			t.Line, t.Column = line, at-begin+1
			if !yield(t) || t.Kind == none {
				return
			}
			at += len(t.Text)
			if t.Kind == api.TokNumber {
				barred = at
			}
		}
	}
}

// first is the token that s begins with, if there is one.
func first(s string) api.Token {
	letter, digit := between('a', 'z'), between('0', '9')
	mark := among("{}():;,=.")
	switch c := s[0]; {
	case letter(c):
		inWord := func(c byte) bool { return letter(c) || digit(c) || c == '_' }
		return api.Token{Kind: api.TokWord, Text: s[:through(s, inWord)]}
	case digit(c), c == '-':
		return number(s[:through(s, digit)])
	case mark(c):
		return api.Token{Kind: api.TokMark, Text: s[:1]}
	}
	return api.Token{}
}

// number is the token of digits, or of - and digits, if they may be a number.
func number(digits string) api.Token {
	n, err := strconv.ParseInt(digits, 10, 32)
	// What is told otherwise than it stands has a needless nought, or is -0.
	if err != nil || strconv.FormatInt(n, 10) != digits {
		return api.Token{}
	}
	return api.Token{Kind: api.TokNumber, Text: digits, N: int(n)}
}

// class says of a byte whether it is of some.
type class func(c byte) bool

func between(from, to byte) class {
	return func(c byte) bool { return c >= from && c <= to }
}

func among(all string) class {
	return func(c byte) bool { return strings.IndexByte(all, c) >= 0 }
}

// through is how far it is through s's first byte, and those behind it that are of
// a class.
func through(s string, is class) int {
	for i := 1; i < len(s); i++ {
		if !is(s[i]) {
			return i
		}
	}
	return len(s)
}
