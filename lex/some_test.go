package lex_test

import (
	"math/big"
	"math/rand"
	"regexp"
	"slices"
	"strings"
	"testing"

	"rota/api"
	"rota/lex"
)

// The ends of all ints.
const (
	most  = 1<<63 - 1
	least = -1 << 63
)

func word(text string) api.Token { return api.Token{Kind: api.TokWord, Text: text} }

func mark(text string) api.Token { return api.Token{Kind: api.TokMark, Text: text} }

func number(text string, n int) api.Token {
	return api.Token{Kind: api.TokNumber, Text: text, N: n}
}

func at(t api.Token, line, column int) api.Token {
	t.Line, t.Column = line, column
	return t
}

// bare are tokens without their lines and columns.
func bare(l []api.Token) []api.Token {
	all := make([]api.Token, len(l))
	for i, t := range l {
		all[i] = at(t, 0, 0)
	}
	return all
}

// areTokens holds what Tokens answers against the tokens that are to be.
func areTokens(t *testing.T, s string, want ...api.Token) {
	t.Helper()
	l, line, column, err := lex.Tokens(s)
	if err != api.OK || line != 0 || column != 0 || !slices.Equal(l, want) {
		t.Errorf("Tokens(%q) = %v, %d, %d, %v; want %v", s, l, line, column, err, want)
	}
}

// areNone holds what Tokens answers against the place of a byte that begins none.
func areNone(t *testing.T, s string, line, column int) {
	t.Helper()
	l, x, y, err := lex.Tokens(s)
	if err != api.ErrLex || x != line || y != column || len(l) > 0 {
		t.Errorf("Tokens(%q) = %v, %d, %d, %v; want %d:%d", s, l, x, y, err, line, column)
	}
}

func isPrint(t *testing.T, l []api.Token, want string) {
	t.Helper()
	if s, err := lex.Print(l); s != want || err != api.OK {
		t.Errorf("Print(%v) = %q, %v; want %q", l, s, err, want)
	}
}

func isNoPrint(t *testing.T, l ...api.Token) {
	t.Helper()
	if s, err := lex.Print(l); s != "" || err != api.ErrLex {
		t.Errorf("Print(%v) = %q, %v; want an error", l, s, err)
	}
}

func isFind(t *testing.T, l []api.Token, line, column, want int) {
	t.Helper()
	if i := lex.Find(l, line, column); i != want {
		t.Errorf("Find(%v, %d, %d) = %d; want %d", l, line, column, i, want)
	}
}

// model tells a text's tokens by patterns; at is -1, or which byte begins none.
func model(s string) (l []api.Token, bad int) {
	skipped := regexp.MustCompile(`^(?:[ \t\r\n]|#[^\n]*)+`)
	patterns := []*regexp.Regexp{
		api.TokWord:   regexp.MustCompile(`^[a-z][a-z0-9_]*`),
		api.TokNumber: regexp.MustCompile(`^-?[0-9]+`),
		api.TokMark:   regexp.MustCompile(`^[{}():;,=.]`),
	}
	for from := 0; ; {
		from += len(skipped.FindString(s[from:]))
		if from == len(s) {
			return l, -1
		}
		t := at(api.Token{}, lineOf(s, from), columnOf(s, from))
		for kind := api.TokWord; kind <= api.TokMark; kind++ {
			if text := patterns[kind].FindString(s[from:]); text != "" {
				t.Kind, t.Text = kind, text
			}
		}
		if t.Kind == 0 || t.Kind == api.TokNumber && !isNumber(t.Text) {
			return nil, from
		}
		from += len(t.Text)
		if t.Kind == api.TokNumber {
			n, _ := new(big.Int).SetString(t.Text, 10)
			t.N = int(n.Int64())
			if from < len(s) && (s[from] >= 'a' && s[from] <= 'z' || s[from] == '_') {
				return nil, from
			}
		}
		l = append(l, t)
	}
}

func isNumber(text string) bool {
	n, ok := new(big.Int).SetString(text, 10)
	return ok && n.String() == text && n.Cmp(big.NewInt(-1<<31)) >= 0 && n.Cmp(big.NewInt(1<<31-1)) <= 0
}

func lineOf(s string, at int) int { return 1 + strings.Count(s[:at], "\n") }

func columnOf(s string, at int) int { return at - strings.LastIndexByte(s[:at], '\n') }

// like holds what Tokens answers against the model.
func like(t *testing.T, s string) {
	t.Helper()
	l, bad := model(s)
	if bad >= 0 {
		areNone(t, s, lineOf(s, bad), columnOf(s, bad))
		return
	}
	areTokens(t, s, l...)
}

// someText is put together from pieces.
func someText(r *rand.Rand, pieces []string, many int) string {
	var b strings.Builder
	for range many {
		b.WriteString(pieces[r.Intn(len(pieces))])
	}
	return b.String()
}

// someToken is one of any kind, with a line and a column that say nothing.
func someToken(r *rand.Rand) api.Token {
	marks := "{}():;,=."
	t := mark(string(marks[r.Intn(len(marks))]))
	switch r.Intn(3) {
	case 0:
		t = word(someText(r, []string{"a", "z", "m"}, 1) + someText(r, []string{"a", "z", "0", "9", "_"}, r.Intn(5)))
	case 1:
		n := int(int32(r.Uint32())) >> r.Intn(32)
		t = number(big.NewInt(int64(n)).String(), n)
	}
	return at(t, r.Intn(5)-1, r.Intn(5)-1)
}

func someTokens(r *rand.Rand, many int) []api.Token {
	l := make([]api.Token, many)
	for i := range l {
		l[i] = someToken(r)
	}
	return l
}
