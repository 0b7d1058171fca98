package lex_test

import (
	"math/rand"
	"slices"
	"strings"
	"testing"

	"rota/api"
	"rota/lex"
)

// P14.5: tokens of what is printed are the tokens, but for lines and columns.
func TestPrintAndBack(t *testing.T) {
	r := rand.New(rand.NewSource(1404))
	for range 5000 {
		l := someTokens(r, r.Intn(12))
		s, err := lex.Print(l)
		if err != api.OK {
			t.Fatal(l, err)
		}
		back, line, column, err := lex.Tokens(s)
		if err != api.OK || line != 0 || column != 0 || !slices.Equal(bare(back), bare(l)) {
			t.Fatal(l, s, back)
		}
		again, err := lex.Print(back)
		if again != s || err != api.OK {
			t.Fatal(s, again)
		}
	}
}

// P14.5: blanks and remarks between tokens make no difference but for lines and
// columns.
func TestBetween(t *testing.T) {
	between := []string{" ", "\t", "\r", "\n", "#\n", "# x; -0 \xff\r\n", "\n\n"}
	r := rand.New(rand.NewSource(1405))
	for range 5000 {
		l := someTokens(r, r.Intn(12))
		var b strings.Builder
		var want []api.Token
		for _, x := range l {
			b.WriteString(someText(r, between, 1+r.Intn(3)))
			want = append(want, at(x, lineOf(b.String(), b.Len()), columnOf(b.String(), b.Len())))
			b.WriteString(x.Text)
		}
		b.WriteString(someText(r, append(between, " # end"), r.Intn(2)))
		areTokens(t, b.String(), want...)
	}
}

// P14.5: a token's place finds that token.
func TestFindEach(t *testing.T) {
	l, _, _, err := lex.Tokens("script { # all\n stream { write 3 255;\n\n send 1 : 7 -8; }\n}")
	if err != api.OK {
		t.Fatal(err)
	}
	for i, x := range l {
		isFind(t, l, x.Line, x.Column, i)
		isFind(t, l, x.Line, x.Column-1, i-1)
	}
}
