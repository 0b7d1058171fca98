package lex_test

import (
	"slices"
	"testing"
	"unsafe"

	"rota/api"
	"rota/lex"
)

// P14.4: what is handed in stays as it is, and so does the room around it.
func TestOnlyRead(t *testing.T) {
	whole := []api.Token{at(word("a"), 1, 1), at(number("4", 4), 1, 3), at(mark(";"), 1, 4), {Kind: 7, Text: "!", N: 3}, at(mark("{"), 0, -4)}
	was := slices.Clone(whole)
	for from := range whole {
		for to := from; to <= len(whole); to++ {
			l := whole[from:to]
			lex.Print(l)
			lex.Find(l, 1, 3)
			if !slices.Equal(whole, was) {
				t.Fatal(whole)
			}
		}
	}
}

// P14.4: what is answered is not changed by another call, nor by who holds another
// answer.
func TestNewMemory(t *testing.T) {
	s := "nodes 4; { }"
	a, _, _, _ := lex.Tokens(s)
	b, _, _, _ := lex.Tokens(s)
	kept := slices.Clone(b)
	clear(a[:cap(a)])
	if !slices.Equal(b, kept) {
		t.Error(b)
	}
	areTokens(t, s, kept...)
}

// P14.4: a token's bytes are its own, none of the text's.
func TestOwnBytes(t *testing.T) {
	s := string([]byte("nodes 4; { }"))
	begin := uintptr(unsafe.Pointer(unsafe.StringData(s)))
	l, _, _, _ := lex.Tokens(s)
	for _, x := range l {
		at := uintptr(unsafe.Pointer(unsafe.StringData(x.Text)))
		if at >= begin && at < begin+uintptr(len(s)) {
			t.Error(x)
		}
	}
	one := string([]byte("word"))
	text, _ := lex.Print([]api.Token{word(one)})
	if unsafe.StringData(text) == unsafe.StringData(one) {
		t.Error(text)
	}
}
