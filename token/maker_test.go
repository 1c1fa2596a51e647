package token

import (
	"fmt"
	"math/rand/v2"
	"strings"

	"constraint/api"
)

const (
	lowerLetters = "abcdefghijklmnopqrstuvwxyz"
	upperLetters = "ABCDEFGHIJKLMNOPQRSTUVWXYZ"
	digits       = "0123456789"
	wordBytes    = lowerLetters + upperLetters + digits + "_"
	spaces       = " \t\r\n"
)

var (
	symbols  = strings.Fields(`@ , . ( ) | / \ + - * % = == \= < =< > >= =:= =\= <=> ==>`)
	reserved = []string{"constraint", "true", "fail", "is", "int", "ground"}
	kinds    = map[int]string{api.KEnd: "end", api.KName: "name", api.KVar: "var", api.KInt: "int", api.KSymbol: "symbol"}
	errors   = map[api.Errno]string{
		api.ErrArg: "ErrArg", api.ErrSize: "ErrSize", api.ErrSyntax: "ErrSyntax", api.ErrName: "ErrName", api.ErrRange: "ErrRange",
	}
)

// oneByte is the string of a byte, which is not the string of the rune with this number.
func oneByte(c int) string { return string([]byte{byte(c)}) }

// stringOf returns a string of a length that begins with first.
func stringOf(first, further string, size int) string {
	return (first + strings.Repeat(further, size))[:size]
}

// shown writes what Next returns: the kind, offset and text of the token and the offset after it, or the error and its offset.
func shown(x api.Token, next int, e api.Errno) string {
	if e != api.OK {
		// A token beside an error is never wanted.
		if x != (api.Token{}) {
			return fmt.Sprintf("%s %d with %+v", errors[e], next, x)
		}
		return fmt.Sprintf("%s %d", errors[e], next)
	}
	return fmt.Sprintf("%s %d %s %d", kinds[x.Kind], x.At, short(x.Text), next)
}

// short returns the beginning of a text in quotes.
func short(s string) string {
	if len(s) > 100 {
		return fmt.Sprintf("%q.. (%d bytes)", s[:100], len(s))
	}
	return fmt.Sprintf("%q", s)
}

// texts calls check for all texts of up to a number of parts.
func texts(parts []string, most int, check func(s string)) {
	var extend func(s string, count int)
	extend = func(s string, count int) {
		check(s)
		if count < most {
			for _, part := range parts {
				extend(s+part, count+1)
			}
		}
	}
	extend("", 0)
}

// alphabets are parts of texts, with the number of parts up to which all texts are made of them.
func alphabets() map[int][]string {
	return map[int][]string{
		6: strings.Split(`= < > \ :`, " "),
		5: strings.Split("a,Z,_,0,9,#, ,\n,.", ","),
		4: {" ", "\n", "#", ":", "is", "x", "Y", "_", "0", "\v", "\xc2", "\xa0", "(", "-", ".", "\\", "=", "==", "<", ">"},
		3: append([]string{
			" ", "\r\n", "\t", "# p\n", "#", ":", "x1", "Y_", "007", "2147483648", "2147483649", "int",
			stringOf("n", "a", 40), stringOf("n", "a", 41), stringOf("V", "1", 40), stringOf("_", "_", 41),
		}, symbols...),
	}
}

// maker makes random texts.
type maker struct{ random *rand.Rand }

func newMaker(seed uint64) *maker { return &maker{rand.New(rand.NewPCG(seed, 12))} }

func pick[T any](g *maker, list ...T) T { return list[g.random.IntN(len(list))] }

// bytes returns up to a number of bytes of an alphabet.
func (g *maker) bytes(alphabet string, most int) string {
	list := make([]byte, g.random.IntN(most+1))
	for i := range list {
		list[i] = alphabet[g.random.IntN(len(alphabet))]
	}
	return string(list)
}

// any returns up to a number of bytes of all kinds.
func (g *maker) any(most int) string {
	list := make([]byte, g.random.IntN(most+1))
	for i := range list {
		list[i] = byte(g.random.IntN(256))
	}
	return string(list)
}

// token returns a text that is one token by itself.
func (g *maker) token() string {
	switch g.random.IntN(8) {
	case 0:
		return pick(g, reserved...)
	case 1, 2:
		return g.bytes(lowerLetters, 0) + oneByte('a'+g.random.IntN(26)) + g.bytes(wordBytes, pick(g, 3, 39))
	case 3, 4:
		return pick(g, "_", oneByte('A'+g.random.IntN(26))) + g.bytes(wordBytes, pick(g, 3, 39))
	case 5:
		return pick(g, "0", "7", "00012", "2147483648", "2147483647", strings.Repeat("0", g.random.IntN(60))+"2147483648", "1"+g.bytes(digits, 8))
	}
	return pick(g, symbols...)
}

// gap returns white space and comments, or nothing.
func (g *maker) gap() string {
	s := ""
	for range g.random.IntN(3) {
		s += g.bytes(spaces, 3) + pick(g, "", "#"+strings.ReplaceAll(g.any(12), "\n", " ")+"\n", "# "+g.token()+" # "+g.token()+"\n")
	}
	return s
}

// wrong returns a text that is no token and begins none, or one with a token that is not permitted.
func (g *maker) wrong() string {
	return pick(g, ":", "\v", "\x00", "\xa0", "\u00a0", "\u00e4", "!", "\"", "'", "?", "[", "]", "^", "`", "{", "}", "~", "$", "&", ";", "=:", "\x7f",
		stringOf("a", "b", 41), stringOf("Z", "_", 41), stringOf("_", "9", 60), "2147483649", "9999999999", "18446744073709551617",
		"0000000002147483649", g.any(4))
}

// text returns a text of up to a number of tokens, of which some may be wrong.
func (g *maker) text(most int) string {
	var s strings.Builder
	wrongs := pick(g, 0, 0, 20)
	for range g.random.IntN(most + 1) {
		s.WriteString(g.gap())
		if g.random.IntN(100) < wrongs {
			s.WriteString(g.wrong())
		}
		s.WriteString(g.token())
	}
	return s.String() + g.gap() + pick(g, "", "", "#", "# "+g.token())
}
