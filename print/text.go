package print

import (
	"strings"
	"unicode"
)

// words puts texts together with one blank between any two; an empty text is none.
func words(l ...string) string {
	var b strings.Builder
	for _, s := range l {
		if s != "" && b.Len() > 0 {
			b.WriteByte(' ')
		}
		b.WriteString(s)
	}
	return b.String()
}

// list makes the text of each item, and puts what stands between any two.
func list[T any](l []T, between string, text func(T) string) string {
	var texts []string
	for _, x := range l {
		texts = append(texts, text(x))
	}
	return strings.Join(texts, between)
}

// braces has a semicolon after each item.
func braces[T any](l []T, text func(T) string) string {
	return words("{", list(l, " ", func(x T) string { return text(x) + ";" }), "}")
}

func enclosed(text string, needed bool) string {
	if needed {
		return "(" + text + ")"
	}
	return text
}

func itself(s string) string { return s }

// isOperator tells the names of a module apart, which begin with a letter otherwise.
func isOperator(name string) bool { return !unicode.IsLetter(rune(name[0])) }

// variableText writes an operator in parentheses, and every other name as it is.
func variableText(name string) string { return enclosed(name, isOperator(name)) }
