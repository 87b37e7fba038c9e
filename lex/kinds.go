package lex

import (
	"strconv"
	"strings"

	"weathercock/api"
)

// The functions of this file read the token at the beginning of s, which is not empty, and return how many bytes it has; with an error, how many bytes are ahead of the error's position.

// maxName is the number of bytes that a word or a name has at most.
const maxName = 20

// signs are all signs, none of them behind one that it begins with.
var signs = [...]string{"<=", ">=", "<>", "<", ">", "=", "+", "-", "*", "/", "(", ")", ",", "."}

// word reads a Word if it is one of those that are known, and a Name otherwise.
func word(s string, known map[string]struct{}) (Token, int, api.Errno) {
	size := span(s, isPart)
	if size > maxName {
		return Token{}, 0, api.ErrLong
	}
	t := Token{Kind: Name, S: lower(s[:size])}
	if _, ok := known[t.S]; ok {
		t.Kind = Word
	}
	return t, size, api.OK
}

func number(s string) (Token, int, api.Errno) {
	size := span(s, isDigit)
	n, err := strconv.Atoi(s[:size])
	if err != nil {
		return Token{}, 0, api.ErrLong
	}
	return Token{Kind: Number, N: n}, size, api.OK
}

// text reads a Text. That it has no end is told first: what its S would be is not known then.
func text(s string) (Token, int, api.Errno) {
	var inner []byte
	for i := 1; i < len(s); i++ {
		if s[i] == '\'' {
			if i+1 == len(s) || s[i+1] != '\'' {
				return textOf(inner, i+1)
			}
			i++
		}
		inner = append(inner, s[i])
	}
	return Token{}, len(s), api.ErrLex
}

// textOf returns a Text of what is between its ends, which has size bytes with them.
func textOf(inner []byte, size int) (Token, int, api.Errno) {
	if len(inner) > api.MaxBytes {
		return Token{}, 0, api.ErrLong
	}
	return Token{Kind: Text, S: string(inner)}, size, api.OK
}

func param(s string) (Token, int, api.Errno) {
	digits := span(s[1:], isDigit)
	if digits == 0 {
		return Token{}, 0, api.ErrLex
	}
	n, err := strconv.Atoi(s[1 : 1+digits])
	if err != nil || n < 1 || n > api.MaxParams {
		return Token{}, 0, api.ErrLong
	}
	return Token{Kind: Param, N: n}, 1 + digits, api.OK
}

// sign reads a Sign; no other token begins with its byte.
func sign(s string) (Token, int, api.Errno) {
	for _, x := range signs {
		if strings.HasPrefix(s, x) {
			return Token{Kind: Sign, S: x}, len(x), api.OK
		}
	}
	return Token{}, 0, api.ErrLex
}

// lower returns s in lower case, in memory of its own, so that a short name does not hold the whole query.
func lower(s string) string { return strings.Clone(strings.ToLower(s)) }
