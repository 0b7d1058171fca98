package lex_test

import (
	"math/rand"
	"strings"
	"testing"

	"rota/api"
)

// P14.2: behind ; and { and } stands a byte 10, behind each other one a blank, the
// last one too.
func TestPrint(t *testing.T) {
	isPrint(t, nil, "")
	isPrint(t, []api.Token{}, "")
	isPrint(t, []api.Token{word("nodes"), number("4", 4), mark(";")}, "nodes 4 ;\n")
	isPrint(t, []api.Token{mark("{"), mark("}"), mark("{")}, "{\n}\n{\n")
	isPrint(t, []api.Token{mark("("), mark(")"), mark(":"), mark(","), mark("="), mark(".")}, "( ) : , = . ")
	isPrint(t, []api.Token{number("-2147483648", -1<<31), number("0", 0), number("2147483647", 1<<31-1), word("a_1")}, "-2147483648 0 2147483647 a_1 ")
}

// P14.2: lines and columns are not looked at.
func TestPrintAnywhere(t *testing.T) {
	for _, x := range []int{least, -1, 0, 1, 7, most} {
		isPrint(t, []api.Token{at(word("a"), x, 3), at(mark(";"), -x, x)}, "a ;\n")
	}
}

// P14.2: a text is one token's bytes, no less and no more.
func TestPrintNoToken(t *testing.T) {
	for _, text := range []string{
		"", " ", "\n", "#", "# a", "a ", " a", "a#", "a\n", "#\na", "a b", "a;", "4x", "a-1", "A", "_", "_a", "é", "\x00",
		"01", "-0", "-", "--1", "4 ", " 4", "+4", "4;", "4-4", "2147483648", "-2147483649", "4_", "4_0", "0x4",
		";;", "{}", "; ", " ;", "!", "[", ";#", strings.Repeat("9", 100),
	} {
		for kind := -1; kind <= 4; kind++ {
			for _, n := range []int{0, 4, -1, 40} {
				isNoPrint(t, api.Token{Kind: kind, Text: text, N: n})
			}
		}
	}
}

// P14.2: its kind is that of its text.
func TestPrintKind(t *testing.T) {
	for _, x := range []api.Token{word("a"), number("0", 0), mark(";")} {
		for _, kind := range []int{least, -1, 0, 1, 2, 3, 4, most} {
			one := x
			one.Kind = kind
			if kind == x.Kind {
				isPrint(t, []api.Token{word("b"), one}, "b "+x.Text+end(x))
				continue
			}
			isNoPrint(t, one)
			isNoPrint(t, word("b"), one)
			isNoPrint(t, one, word("b"))
		}
	}
}

// P14.2: N is its text's number, and 0 of words and marks.
func TestPrintNumber(t *testing.T) {
	for _, n := range []int{least, -1 << 31, -4, -1, 1, 5, 4 + 1<<32, 1 << 31, most} {
		isNoPrint(t, number("4", n))
		isNoPrint(t, api.Token{Kind: api.TokWord, Text: "a", N: n})
		isNoPrint(t, api.Token{Kind: api.TokMark, Text: ";", N: n})
	}
	isNoPrint(t, number("4", 0))
	isNoPrint(t, number("-4", 4))
	isPrint(t, []api.Token{number("-4", -4)}, "-4 ")
}

// end is the byte behind a token.
func end(x api.Token) string {
	if x.Text == ";" || x.Text == "{" || x.Text == "}" {
		return "\n"
	}
	return " "
}

// P14.2: one that is wrong, wherever it stands, lets nothing be printed.
func TestPrintOneWrong(t *testing.T) {
	r := rand.New(rand.NewSource(1402))
	for range 2000 {
		l := someTokens(r, 1+r.Intn(6))
		var b strings.Builder
		for _, x := range l {
			b.WriteString(x.Text)
			b.WriteString(end(x))
		}
		isPrint(t, l, b.String())
		i := r.Intn(len(l))
		switch r.Intn(3) {
		case 0:
			l[i].Kind++
		case 1:
			l[i].N--
		case 2:
			l[i].Text += " "
		}
		isNoPrint(t, l...)
	}
}
