package lexis

import (
	"strings"

	"damask/api"
)

// none is the kind of what is no token.
const none = 0

// What a byte can be; it can be several of these.
const (
	upper  = 1 << iota // a capital letter
	letter             // any letter
	inName             // in a name or a number
	inRun              // in a run of operator bytes
	space              // between tokens
)

func traits(b byte) int {
	t := 0
	switch {
	case b >= 'A' && b <= 'Z':
		t |= upper
		fallthrough
	case b >= 'a' && b <= 'z':
		t |= letter
		fallthrough
	case b >= '0' && b <= '9', b == '_', b == '\'':
		t |= inName
	case strings.IndexByte("!#$%&*+./<=>?@^|-~:\\", b) >= 0:
		t |= inRun
	case strings.IndexByte(" \t\n\r", b) >= 0:
		t |= space
	}
	return t
}

// stretch returns how many bytes at the beginning of a string have a trait.
func stretch(s string, trait int) int {
	n := 0
	for n < len(s) && traits(s[n])&trait != 0 {
		n++
	}
	return n
}

// spaceLength returns how many bytes come before the first one that is neither in a comment nor a blank or the like.
func spaceLength(s string) int {
	n := stretch(s, space)
	for isComment(s[n:]) {
		line := strings.IndexByte(s[n:], '\n')
		if line < 0 {
			return len(s)
		}
		n += line
		n += stretch(s[n:], space)
	}
	return n
}

// tokenLength returns the length of the only text with which a string, which is not empty, can begin as a token.
func tokenLength(s string) int {
	t := traits(s[0])
	switch {
	case s[0] == '\'' && (len(s) == 1 || !isUpper(s[1])):
		return 0
	case s[0] == '\'':
		return 1 // although the name after it begins with a byte that could go on with a name
	case t&inName != 0:
		return stretch(s, inName)
	case t&inRun != 0:
		return stretch(s, inRun)
	}
	return 1
}

func isToken(words map[string]bool, t api.Token) bool {
	if t.Kind == api.TEnd {
		return t.Text == ""
	}
	return t.Kind != none && t.Kind == kindOf(words, t.Text)
}

// kindOf returns the kind of the token that a text is, or none; the end has no text.
func kindOf(words map[string]bool, s string) int {
	switch {
	case words[s]:
		return api.TWord
	case IsCapital(s):
		return api.TCon
	case isName(s):
		return api.TVar
	case isNumber(s):
		return api.TInt
	case isSign(s):
		return api.TSign
	case IsOp(s):
		return api.TOp
	}
	return none
}

func isUpper(b byte) bool { return traits(b)&upper != 0 }

func isComment(s string) bool { return strings.HasPrefix(s, "--") }

// isName reports whether a string is a name, or a word.
func isName(s string) bool {
	return s != "" && len(s) <= api.MaxName && traits(s[0])&letter != 0 && stretch(s, inName) == len(s)
}

func isNumber(s string) bool {
	const greatest = "9223372036854775807"
	for i := range len(s) {
		if s[i] < '0' || s[i] > '9' {
			return false
		}
	}
	if s == "" || s[0] == '0' && len(s) > 1 || len(s) > len(greatest) {
		return false
	}
	return len(s) < len(greatest) || s <= greatest
}

func isSign(s string) bool {
	switch s {
	case "=", "->", "=>", "<-", ":", "|", "\\", "@", "~", "!", ".":
		return true
	case "(", ")", "{", "}", ",", ";", "_", "'":
		return true
	}
	return false
}

// isWord asks for the length first: most names are too short for a word, and need no map.
func isWord(s string) bool { return len(s) > 1 && wordSet()[s] }

func wordSet() map[string]bool {
	return map[string]bool{
		"case": true, "class": true, "data": true, "deriving": true, "do": true, "else": true, "family": true,
		"forall": true, "if": true, "import": true, "in": true, "infix": true, "infixl": true, "infixr": true,
		"instance": true, "let": true, "module": true, "newtype": true, "of": true, "then": true, "where": true,
	}
}
