package lex_test

import (
	"math/rand"
	"strings"
	"testing"
	"time"

	"rota/api"
	"rota/lex"
)

// P14.1: the chapter's examples.
func TestTokensOfTheChapter(t *testing.T) {
	areTokens(t, "nodes 4; # x", at(word("nodes"), 1, 1), at(number("4", 4), 1, 7), at(mark(";"), 1, 8))
	areTokens(t, "-12", at(number("-12", -12), 1, 1))
	for _, s := range []string{"-0", "01", "2147483648", "-"} {
		areNone(t, s, 1, 1)
	}
	areNone(t, "4x", 1, 2)
}

// P14.1: a text without tokens has none, and no error.
func TestNoTokens(t *testing.T) {
	for _, s := range []string{"", " ", "\t\r\n \n", "#", "# x", "#\n", "#!\n#\x00\xff\r{\n \n#", "##"} {
		areTokens(t, s)
	}
}

// P14.1: a byte begins a word just if it is a letter a to z; behind it digits and _
// are of the word, too.
func TestWords(t *testing.T) {
	for c := range 256 {
		s := string([]byte{byte(c)})
		like(t, s)
		like(t, "a"+s)
		like(t, "a"+s+"z")
		like(t, s+"7")
	}
	areTokens(t, "az_09_z", at(word("az_09_z"), 1, 1))
	areNone(t, "azA", 1, 3)
	areNone(t, "_a", 1, 1)
	areNone(t, "a é", 1, 3)
	areTokens(t, "a-5", at(word("a"), 1, 1), at(number("-5", -5), 1, 2))
	areTokens(t, "a.b", at(word("a"), 1, 1), at(mark("."), 1, 2), at(word("b"), 1, 3))
}

// P14.1: numbers are from -2^31 to 2^31 - 1, without a needless nought.
func TestNumbers(t *testing.T) {
	areTokens(t, "0", at(number("0", 0), 1, 1))
	areTokens(t, "2147483647", at(number("2147483647", 1<<31-1), 1, 1))
	areTokens(t, "-2147483648", at(number("-2147483648", -1<<31), 1, 1))
	for _, s := range []string{
		"2147483648", "-2147483649", "9223372036854775808", "18446744073709551616", "-18446744073709551615",
		"00", "000", "-00", "-01", "-0", "007", "-", "--1", "- 1", "+1", "-a", "-_", "-;", "-\n1",
		strings.Repeat("9", 1000), "-" + strings.Repeat("0", 1000), strings.Repeat("0", 1000) + "1",
	} {
		areNone(t, s, 1, 1)
		areNone(t, "\n\n a "+s, 3, 4)
	}
	areTokens(t, "4-5", at(number("4", 4), 1, 1), at(number("-5", -5), 1, 2))
	areNone(t, "4-0", 1, 2)
	areNone(t, "1 -", 1, 3)
}

// P14.1: where a letter or _ stands at once behind a number, that byte begins none;
// what is no number is none at its own first byte.
func TestBehindNumbers(t *testing.T) {
	for c := range 256 {
		s := string([]byte{byte(c)})
		like(t, "4"+s)
		like(t, "-4"+s+" 1")
		like(t, "a 4"+s+"a")
	}
	areNone(t, "4_", 1, 2)
	areNone(t, "-12a", 1, 4)
	areNone(t, "01x", 1, 1)
	areNone(t, "2147483648x", 1, 1)
	areNone(t, "1 4x !", 1, 4)
	areTokens(t, "4 x", at(number("4", 4), 1, 1), at(word("x"), 1, 3))
	areTokens(t, "4#\nx", at(number("4", 4), 1, 1), at(word("x"), 2, 1))
	areTokens(t, "4{x", at(number("4", 4), 1, 1), at(mark("{"), 1, 2), at(word("x"), 1, 3))
}

// P14.1: each mark is one byte, and N is a number's alone.
func TestMarks(t *testing.T) {
	var want []api.Token
	for i, c := range "{}():;,=." {
		want = append(want, at(mark(string(c)), 1, i+1))
	}
	areTokens(t, "{}():;,=.", want...)
	for _, c := range "[]<>!\"'+*/%&|^~?@$\\`\x00\v\f\x7f" {
		areNone(t, string(c), 1, 1)
	}
}

// P14.1: a byte 10 ends a line, and it alone; columns are bytes.
func TestLinesAndColumns(t *testing.T) {
	areTokens(t, "a\nb", at(word("a"), 1, 1), at(word("b"), 2, 1))
	areTokens(t, "a\rb", at(word("a"), 1, 1), at(word("b"), 1, 3))
	areTokens(t, "\r\n\tb", at(word("b"), 2, 2))
	areTokens(t, "# a\rb\nc # é\n  d", at(word("c"), 2, 1), at(word("d"), 3, 3))
	areTokens(t, "a#b\n#c\n\n\n 7", at(word("a"), 1, 1), at(number("7", 7), 5, 2))
	areNone(t, "a;\n  b !", 2, 5)
	areNone(t, "#\xc3\xa9\n\xc3\xa9", 2, 1)
	areNone(t, "a \xc2\xa0", 1, 3)
}

// P14.1: of several bytes that begin none the first is told.
func TestFirstNone(t *testing.T) {
	areNone(t, "a\n! 01\n-", 2, 1)
	areNone(t, "a 01\n!", 1, 3)
	areNone(t, "# ! \n a 4x 01", 2, 5)
}

// P14.1: texts put together by chance are told as by patterns.
func TestTokensLikeModel(t *testing.T) {
	pieces := []string{"a", "zz", "q_1", "0", "1", "27", "2147483647", "2147483648", "-", "-3", "_", "{", "}", ";", ":", ".", ",", "=", "(", ")", " ", " ", "\t", "\r", "\n", "\n", "#", "# {x\n", "!", "Z", "\x00", "é"}
	few := pieces[:27]
	r := rand.New(rand.NewSource(1401))
	for i := range 60000 {
		use := pieces
		if i%3 > 0 {
			use = few
		}
		like(t, someText(r, use, r.Intn(8)))
	}
}

// P14.1: long texts and long tokens take no longer than their bytes.
func TestLongTexts(t *testing.T) {
	begin := time.Now()
	for _, piece := range []string{"a", "7 ", "-1;", "#", " \n", "a1_ {\n", "{", "#\n"} {
		s := strings.Repeat(piece, 1<<20)
		l, _, _, err := lex.Tokens(s)
		if err != api.OK {
			t.Error(piece, err)
		}
		if _, err := lex.Print(l); err != api.OK {
			t.Error(piece, err)
		}
	}
	areNone(t, strings.Repeat("1", 1<<24), 1, 1)
	if took := time.Since(begin); took > 20*time.Second {
		t.Error(took)
	}
}
