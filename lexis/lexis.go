// Package lexis divides a source into tokens.
package lexis

import (
	"slices"
	"strings"

	"damask/api"
)

// Tokens returns the tokens of a source and its end, or the position where a token should begin and none does.
func Tokens(source string) ([]api.Token, int, api.Errno) {
	if len(source) > api.MaxSource {
		return nil, 0, api.ErrFull
	}
	words := wordSet()
	var l []api.Token
	at := 0
	walk := func(length int) string {
		from := at
		at += length
		return source[from:at]
	}
scan:
	for {
		walk(spaceLength(source[at:]))
		rest := source[at:]
		if rest == "" {
			break scan
		}
		length := tokenLength(rest)
		kind := kindOf(words, rest[:length])
		if kind == none {
			return nil, at, api.ErrSyntax
		}
		from := at
		text := walk(length)
		l = append(l, api.Token{Kind: kind, Text: text, At: from})
	}
	return append(l, api.Token{Kind: api.TEnd, At: len(source)}), 0, api.OK
}

// Place returns the line and the column of a position, counted from 1.
func Place(source string, at int) (int, int, api.Errno) {
	if at < 0 || at > len(source) {
		return 0, 0, api.ErrArg
	}
	before := source[:at]
	return strings.Count(before, "\n") + 1, at - strings.LastIndexByte(before, '\n'), api.OK
}

// IsSmall reports whether a string is a small name.
func IsSmall(s string) bool { return isName(s) && !isUpper(s[0]) && !isWord(s) }

// IsCapital reports whether a string is a capital name.
func IsCapital(s string) bool { return isName(s) && isUpper(s[0]) }

// IsOp reports whether a string is an operator.
func IsOp(s string) bool {
	return len(s) > 0 && len(s) <= api.MaxName && stretch(s, inRun) == len(s) && !isComment(s) && !isSign(s)
}

// Words returns all words, ascending.
func Words() []string {
	var l []string
	for w := range wordSet() {
		l = append(l, w)
	}
	slices.Sort(l)
	return l
}

// Join returns the texts of tokens, so that Tokens finds the same ones in it.
func Join(l []api.Token) (string, api.Errno) {
	words := wordSet()
	var b strings.Builder
	between := ""
	for _, t := range l {
		if !isToken(words, t) {
			return "", api.ErrArg
		}
		if t.Kind == api.TEnd {
			continue
		}
		b.WriteString(between)
		b.WriteString(t.Text)
		between = " "
		if t.Text == "'" {
			between = ""
		}
	}
	return b.String(), api.OK
}
