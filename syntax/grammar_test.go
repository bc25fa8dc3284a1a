package syntax

import (
	"math/rand"
	"strings"
	"testing"

	"damask/api"
	"damask/lexis"
)

// grammar is the document's, with a first line for lists of modules.
const grammar = `
modules = { module }
module  = "module" Con [ "(" [ name { "," name } ] ")" ] "{" { import ";" } { decl ";" } "}"
name    = var | Con
var     = small | "(" operator ")"
import  = "import" Con [ "(" [ name { "," name } ] ")" ]
decl    = ( "data" | "newtype" ) Con ":" type [ "deriving" "(" Con { "," Con } ")" ] "{" { con ";" } "}"
        | "family" Con ":" type "{" { btype "=" type ";" } "}"
        | "class" { btype "=>" } Con { "(" small [ ":" type ] ")" } [ "|" dep { "," dep } ] "{" { sig ";" } "}"
        | "instance" type "{" { clause ";" } "}"
        | local
local   = sig | clause | ( "infixl" | "infixr" | "infix" ) digit operator
con     = Con ":" type | Con ":" [ "forall" binder { binder } "." ] "{" small ":" type { "," small ":" type } "}" "->" type
dep     = small { small } "->" small { small }
sig     = var ":" type
clause  = var { apat } rhs | pat operator pat rhs
rhs     = ( "=" expr | "|" cond "=" expr { "|" cond "=" expr } ) [ "where" "{" { local ";" } "}" ]
cond    = cexp { operator cexp }
cexp    = "case" expr "of" "{" { pat alt ";" } "}" | "do" "{" { stmt ";" } "}" | aexp { aexp | "@" atype }
pat     = Con { apat } | apat
apat    = small [ "@" apat ] | "_" | Con | number | "(" pat ")" | "!" apat | "~" apat
expr    = ops [ ":" type ]
ops     = fexp { operator fexp }
fexp    = "\" apat { apat } "->" expr | "let" "{" { local ";" } "}" "in" expr
        | "case" expr "of" "{" { pat alt ";" } "}" | "if" expr "then" expr "else" expr
        | "do" "{" { stmt ";" } "}" | aexp { aexp | "@" atype }
alt     = ( "->" expr | "|" cond "->" expr { "|" cond "->" expr } ) [ "where" "{" { local ";" } "}" ]
stmt    = pat "<-" expr | "let" "{" { local ";" } "}" | expr
aexp    = ( var | Con | number | "(" expr ")" ) { "{" small "=" expr { "," small "=" expr } "}" }
type    = "forall" binder { binder } "." type | btype "~" btype [ "=>" type ] | btype [ ( "=>" | "->" ) type ]
btype   = atype { atype }
atype   = Con | small | "'" Con | "(" type ")" | "(" "->" ")"
binder  = small | "(" small ":" type ")"
`

// rules has the alternatives of each part; a symbol is a part or a token, and what is in brackets is a part of its own.
type rules struct {
	alternatives map[string][][]string
	words        []string
	at           int
	made         int
}

func readGrammar() *rules {
	r := &rules{alternatives: map[string][][]string{}, words: strings.Fields(grammar)}
	for r.at < len(r.words) {
		name := r.words[r.at]
		r.at += 2
		r.choices(name)
	}
	return r
}

// choices reads what stands up to the next rule, or the end of a bracket.
func (r *rules) choices(name string) {
	alternative := []string{}
	for r.at < len(r.words) {
		w := r.words[r.at]
		if r.at+1 < len(r.words) && r.words[r.at+1] == "=" {
			break
		}
		r.at++
		switch w {
		case "|":
			r.alternatives[name] = append(r.alternatives[name], alternative)
			alternative = []string{}
			continue
		case "(", "[", "{":
			alternative = append(alternative, r.bracket(w))
			continue
		case ")", "]", "}":
			r.alternatives[name] = append(r.alternatives[name], alternative)
			return
		}
		alternative = append(alternative, w)
	}
	r.alternatives[name] = append(r.alternatives[name], alternative)
}

func (r *rules) bracket(open string) string {
	r.made++
	name := open + strings.Repeat("'", r.made)
	r.choices(name)
	if open != "(" {
		r.alternatives[name] = append(r.alternatives[name], []string{})
	}
	if open == "{" {
		for i, a := range r.alternatives[name] {
			if len(a) > 0 {
				r.alternatives[name][i] = append(a, name)
			}
		}
	}
	return name
}

func fits(symbol string, t api.Token) bool {
	switch symbol {
	case "Con":
		return t.Kind == api.TCon
	case "small":
		return t.Kind == api.TVar
	case "number":
		return t.Kind == api.TInt
	case "digit":
		return t.Kind == api.TInt && len(t.Text) == 1
	case "operator":
		return t.Kind == api.TOp
	}
	return t.Kind != api.TEnd && symbol == `"`+t.Text+`"`
}

// item is an alternative of a part that began at from, of which the symbols before dot are read.
type item struct {
	name        string
	alternative int
	dot, from   int
}

// firstWrong finds the first token with which the tokens up to it are no beginning, by Earley's method: it follows all readings at once.
func (r *rules) firstWrong(start string, tokens []api.Token) (int, api.Errno) {
	sets := []map[item]bool{{}}
	for i := range r.alternatives[start] {
		sets[0][item{start, i, 0, 0}] = true
	}
	for at, t := range tokens {
		next := r.closed(sets, at, t)
		if t.Kind == api.TEnd {
			for i, a := range r.alternatives[start] {
				if sets[at][item{start, i, len(a), 0}] {
					return 0, api.OK
				}
			}
		}
		if len(next) == 0 {
			return t.At, api.ErrSyntax
		}
		sets = append(sets, next)
	}
	panic("tokens without an end")
}

// closed completes the last set, and returns the items after a token.
func (r *rules) closed(sets []map[item]bool, at int, t api.Token) map[item]bool {
	next := map[item]bool{}
	set := sets[at]
	var work []item
	for x := range set {
		work = append(work, x)
	}
	add := func(x item) {
		if !set[x] {
			set[x] = true
			work = append(work, x)
		}
	}
	for len(work) > 0 {
		x := work[len(work)-1]
		work = work[:len(work)-1]
		a := r.alternatives[x.name][x.alternative]
		if x.dot == len(a) {
			for y := range sets[x.from] {
				b := r.alternatives[y.name][y.alternative]
				if y.dot < len(b) && b[y.dot] == x.name {
					add(item{y.name, y.alternative, y.dot + 1, y.from})
				}
			}
			continue
		}
		symbol := a[x.dot]
		if l, part := r.alternatives[symbol]; part {
			for i, b := range l {
				add(item{symbol, i, 0, at})
				if len(b) == 0 { // it may be complete already, with nothing read
					add(item{x.name, x.alternative, x.dot + 1, x.from})
				}
			}
		} else if fits(symbol, t) {
			next[item{x.name, x.alternative, x.dot + 1, x.from}] = true
		}
	}
	return next
}

// writer makes random sentences of the grammar; when it is deep it takes short alternatives.
type writer struct {
	rules  *rules
	random *rand.Rand
	cost   map[string]int
	out    []string
}

func newWriter(r *rules, random *rand.Rand) *writer {
	w := &writer{rules: r, random: random, cost: map[string]int{}}
	for range 50 {
		for name, l := range r.alternatives {
			least := 1000
			for _, a := range l {
				least = min(least, w.length(a)+1)
			}
			w.cost[name] = least
		}
	}
	return w
}

func (w *writer) length(a []string) int {
	n := 0
	for _, s := range a {
		if _, part := w.rules.alternatives[s]; part {
			if c, known := w.cost[s]; known {
				n = max(n, c)
			} else {
				n = 1000
			}
		}
	}
	return n
}

func (w *writer) write(symbol string, depth int) {
	l, part := w.rules.alternatives[symbol]
	if !part {
		w.out = append(w.out, w.token(symbol))
		return
	}
	a := l[w.random.Intn(len(l))]
	if depth <= 0 || len(w.out) > 150 {
		for _, b := range l {
			if w.length(b) < w.length(a) || len(b) == 0 {
				a = b
			}
		}
	}
	for _, s := range a {
		w.write(s, depth-1)
	}
}

func (w *writer) token(symbol string) string {
	pick := func(s string) string {
		l := strings.Fields(s)
		return l[w.random.Intn(len(l))]
	}
	switch symbol {
	case "Con":
		return pick("A B Cc")
	case "small":
		return pick("x y f")
	case "number":
		return pick("0 1 23")
	case "digit":
		return pick("0 5 9")
	case "operator":
		return pick("+ ++ *")
	}
	return strings.Trim(symbol, `"`)
}

// spoiled changes some tokens of a sentence.
func spoiled(l []string, random *rand.Rand) []string {
	l = append([]string{}, l...)
	any := strings.Fields("A x + 1 10 = -> => <- : | \\ @ ~ ! . ( ) { } , ; _ 'A case class data deriving do else family forall if import in infix infixl instance let module of then where")
	for range random.Intn(3) {
		at := random.Intn(len(l) + 1)
		switch w := any[random.Intn(len(any))]; random.Intn(4) {
		case 0:
			l = append(l[:at], append([]string{w}, l[at:]...)...)
		case 1:
			l = append(l[:at], l[min(at+1, len(l)):]...)
		case 2:
			l = append(l[:at:at], append([]string{w}, l[min(at+1, len(l)):]...)...)
		case 3:
			l = l[:at]
		}
	}
	return l
}

// joinAll leaves no blank after a quote that has a name after it.
func joinAll(l []string) string {
	return strings.ReplaceAll(strings.Join(l, " "), "' ", "'")
}

// TestFirstWrongToken holds the reader against the grammar itself.
func TestFirstWrongToken(t *testing.T) {
	r := readGrammar()
	random := rand.New(rand.NewSource(2))
	reads := map[string]func(string) (int, api.Errno){
		"modules": func(s string) (int, api.Errno) { _, at, e := Modules(s); return at, e },
		"expr":    func(s string) (int, api.Errno) { _, at, e := Expr(s); return at, e },
		"type":    func(s string) (int, api.Errno) { _, at, e := Type(s); return at, e },
	}
	frames := []struct{ start, before, part, after string }{
		{"modules", "", "modules", ""}, {"expr", "", "expr", ""}, {"type", "", "type", ""},
		{"modules", "module M {", "decl", "; }"}, {"modules", "module M { f", "rhs", "; }"},
		{"modules", "module M { data A : B {", "con", "; } ; }"},
		{"expr", "do {", "stmt", "; }"}, {"expr", "f {", "stmt", "; }"}, {"expr", "do { let {", "local", "; } ; }"},
	}
	count := map[api.Errno]int{}
	w := newWriter(r, random)
	for i := range rounds {
		f := frames[i%len(frames)]
		w.out = strings.Fields(f.before)
		w.write(f.part, 8+random.Intn(30))
		source := joinAll(spoiled(append(w.out, strings.Fields(f.after)...), random))
		tokens, _, e := lexis.Tokens(source)
		if e != api.OK {
			continue
		}
		at, e := reads[f.start](source)
		want, e2 := r.firstWrong(f.start, tokens)
		count[e2]++
		if e == api.ErrFull && e2 == api.OK { // the grammar knows no limits
			continue
		}
		if at != want || e != e2 {
			t.Fatalf("%s %q: %d %v, want %d %v", f.start, source, at, e, want, e2)
		}
	}
	if count[api.OK] < rounds/5 || count[api.ErrSyntax] < rounds/5 {
		t.Error("sources are too much alike:", count)
	}
}

const rounds = 2000
