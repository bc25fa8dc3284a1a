package syntax

import (
	"strconv"

	"damask/api"
	"damask/lexis"
)

// reader reads tokens, each part of the grammar by a method; a wrong token leaves them all by a panic.
type reader struct {
	tokens []api.Token
	next   int
	// far is the farthest position at which a token was wrong: where one way was tried and gone back from, what comes before its wrong token is still a beginning.
	far int
	// What the first word of a part says of how it goes on.
	decls, locals map[string]func() api.Decl
	exprs, conds  map[string]func() api.Expr
}

// wrongToken is what a panic carries when a token does not fit.
type wrongToken struct{}

func newReader(tokens []api.Token) *reader {
	r := &reader{tokens: tokens}
	r.decls = map[string]func() api.Decl{
		"data": r.data, "newtype": r.newtype, "family": r.family, "class": r.class, "instance": r.instance,
		"infixl": r.fixity, "infixr": r.fixity, "infix": r.fixity,
	}
	r.locals = map[string]func() api.Decl{"infixl": r.fixity, "infixr": r.fixity, "infix": r.fixity}
	r.exprs = map[string]func() api.Expr{"\\": r.lambda, "let": r.let, "case": r.cases, "if": r.choice, "do": r.do}
	r.conds = map[string]func() api.Expr{"case": r.cases, "do": r.do}
	return r
}

// readAll returns the one thing that all of a source is.
func readAll[T any](source string, part func(*reader) T) (result T, at int, e api.Errno) {
	tokens, at, e := lexis.Tokens(source)
	if e != api.OK {
		return result, at, e
	}
	r := newReader(tokens)
	defer func() {
		if recover() != nil {
			var none T
			result, at, e = none, r.far, api.ErrSyntax
		}
	}()
	result = part(r)
	if r.kind() != api.TEnd {
		r.wrong()
	}
	return result, 0, api.OK
}

// try goes one way, and back to where it began if a token is wrong on it.
func (r *reader) try(way func()) (done bool) {
	from := r.next
	defer func() {
		if recover() != nil {
			r.next, done = from, false
		}
	}()
	way()
	return true
}

func (r *reader) wrong() {
	r.far = max(r.far, r.tokens[r.next].At)
	panic(wrongToken{})
}

func (r *reader) kind() int { return r.tokens[r.next].Kind }

// text returns the text of the present token, which tells words and signs from all other tokens.
func (r *reader) text() string { return r.tokens[r.next].Text }

// follows returns the token after the present one, or the end.
func (r *reader) follows() api.Token { return r.tokens[min(r.next+1, len(r.tokens)-1)] }

// accept goes over a word or sign, if it stands here.
func (r *reader) accept(text string) bool {
	if r.text() != text {
		return false
	}
	r.next++
	return true
}

// expect goes over a word or sign that must stand here.
func (r *reader) expect(text string) {
	if !r.accept(text) {
		r.wrong()
	}
}

// take goes over a token of a kind that must stand here, and returns its text.
func (r *reader) take(kind int) string {
	if r.kind() != kind {
		r.wrong()
	}
	text := r.text()
	r.next++
	return text
}

func (r *reader) number() int {
	text := r.take(api.TInt)
	n, _ := strconv.Atoi(text) // a token of this kind is small enough
	return n
}

// startsVariable reports whether a variable stands here, as its name or as an operator in parentheses.
func (r *reader) startsVariable() bool {
	return r.kind() == api.TVar || r.text() == "(" && r.follows().Kind == api.TOp
}

func (r *reader) variable() string {
	if !r.accept("(") {
		return r.take(api.TVar)
	}
	name := r.take(api.TOp)
	r.expect(")")
	return name
}

// name reads the name of a variable or a capital one.
func (r *reader) name() string {
	if r.kind() == api.TCon {
		return r.take(api.TCon)
	}
	return r.variable()
}

func (r *reader) capital() string { return r.take(api.TCon) }

func (r *reader) small() string { return r.take(api.TVar) }

// list reads one item or more with a sign between any two.
func list[T any](r *reader, between string, item func() T) []T {
	l := []T{item()}
	for r.accept(between) {
		l = append(l, item())
	}
	return l
}

// block reads braces with items, each of which has a semicolon after it.
func block[T any](r *reader, item func() T) []T {
	r.expect("{")
	var l []T
	for !r.accept("}") {
		l = append(l, item())
		r.expect(";")
	}
	return l
}
