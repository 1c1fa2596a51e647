package token

import (
	"strings"

	"constraint/api"
)

// wanted is what Next returns.
type wanted struct {
	token api.Token
	next  int
	e     api.Errno
}

// wantSymbol looks for the longest symbol among all of them.
func wantSymbol(rest string) string {
	longest := ""
	for _, symbol := range symbols {
		if strings.HasPrefix(rest, symbol) && len(symbol) > len(longest) {
			longest = symbol
		}
	}
	return longest
}

// wantToken returns what Next returns where a token begins, if the bytes of words and of digits that begin there end at two
// offsets.
func wantToken(s string, at, wordEnd, digitsEnd int) wanted {
	first := s[at : at+1]
	switch {
	case strings.Contains(lowerLetters, first):
		return wantWord(api.KName, s, at, wordEnd)
	case strings.Contains(upperLetters+"_", first):
		return wantWord(api.KVar, s, at, wordEnd)
	case strings.Contains(digits, first):
		text := s[at:digitsEnd]
		value := strings.TrimLeft(text, "0")
		if len(value) > len("2147483648") || len(value) == len("2147483648") && value > "2147483648" {
			return wanted{next: at, e: api.ErrRange}
		}
		return wanted{api.Token{Kind: api.KInt, At: at, Text: text}, digitsEnd, api.OK}
	}
	symbol := wantSymbol(s[at:])
	if symbol == "" {
		return wanted{next: at, e: api.ErrSyntax}
	}
	return wanted{api.Token{Kind: api.KSymbol, At: at, Text: symbol}, at + len(symbol), api.OK}
}

func wantWord(kind int, s string, at, end int) wanted {
	if end-at > 40 {
		return wanted{next: at, e: api.ErrName}
	}
	return wanted{api.Token{Kind: kind, At: at, Text: s[at:end]}, end, api.OK}
}

// wantAll returns what Next returns for all offsets of a text, from the last one to the first: so that the end of a word, of
// digits and of a comment are known before their beginning is.
func wantAll(s string) []wanted {
	list := make([]wanted, len(s)+1)
	if len(s) > 16384 {
		for at := range list {
			list[at].e = api.ErrSize
		}
		return list
	}
	wordEnd, digitsEnd := len(s), len(s)
	list[len(s)] = wanted{token: api.Token{At: len(s)}, next: len(s)}
	afterLine := list[len(s)]
	for at := len(s) - 1; at >= 0; at-- {
		c := s[at : at+1]
		if !strings.Contains(wordBytes, c) {
			wordEnd = at
		}
		if !strings.Contains(digits, c) {
			digitsEnd = at
		}
		switch {
		case strings.Contains(spaces, c):
			list[at] = list[at+1]
		case c == "#":
			list[at] = afterLine
		default:
			list[at] = wantToken(s, at, wordEnd, digitsEnd)
		}
		if c == "\n" {
			afterLine = list[at]
		}
	}
	return list
}

// wantScan returns what Scan returns.
func wantScan(s string) ([]api.Token, int, api.Errno) {
	var tokens []api.Token
	list := wantAll(s)
	for at := 0; ; {
		w := list[at]
		if w.e != api.OK {
			return nil, w.next, w.e
		}
		tokens = append(tokens, w.token)
		if w.token.Kind == api.KEnd {
			return tokens, 0, api.OK
		}
		at = w.next
	}
}
