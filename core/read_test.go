package core

import (
	"slices"
	"strconv"
	"strings"

	"damask/api"
	"damask/internal/text"
)

// declared is what the terms of tests are about.
const declared = `
	data Nat : Type { Z : Nat; S : Nat -> Nat; };
	data List : Type -> Type { Nil : List a; Cons : a -> List a -> List a; };
	data Pair : Type -> Type -> Type { Pair : a -> b -> Pair a b; };
	data Vec : Type -> Nat -> Type { VNil : Vec a 'Z; VCons : forall a (n : Nat). a -> Vec a n -> Vec a ('S n); };
	data Is : Type -> Type -> Type { Refl : Is a a; };
	data Some : Type { Some : Eq a => a -> Some; };
	data Hidden : Type { Hidden : forall (k : Type) (a : k). Proxy k a -> Hidden; };
	data Proxy : forall (k : Type). k -> Type { Proxy : forall (k : Type) (a : k). Proxy k a; };
	data Void : Type { };
	data Poly : Type { Poly : (forall a. a -> a) -> Poly; };
	data Both : Type -> Type { Both : a ~ List b => b ~ c => Eq b => b -> c -> Both a; };
	newtype Age : Type { Age : Int -> Age; };
	newtype Wrap : (Type -> Type) -> Type -> Type { Wrap : forall (f : Type -> Type) a. f a -> Wrap f a; };
	newtype In : forall (k : Type). k -> Type { In : forall (k : Type) (a : k). (Proxy k a -> Int) -> In k a; };
	family Plus : Nat -> Nat -> Nat { Plus 'Z m = m; Plus ('S n) m = 'S (Plus n m); };
	family Elem : Type -> Type { Elem (List a) = a; Elem Int = Bool; };
	family Same : Type -> Type -> Bool { Same a a = 'True; Same a b = 'False; };
	family Box : Nat -> Type -> Type { Box 'Z = List; };
	family Unit2 : Type { Unit2 = Unit; };
	class Eq (a) { same : a -> a -> Bool; };
	class Eq a => Ord (a) { below : a -> a -> Bool; above : a -> a -> Bool; };
	class Conv (a) (b) { conv : a -> b; };
	class Functor (f : Type -> Type) { map : (a -> b) -> f a -> f b; };
	class Empty { };
`

// names are those that are bound where something is read.
type names struct{ types, cos, vars []string }

// reader reads terms of words and lists; a type stands in braces.
//
//	x $f 5 Nil Eq%                   variables, globals, numbers, constructors
//	(lam x {T} e) (app f a ...)      functions
//	(tlam a {k} e) (at e {T} ...)    of types
//	(qlam q {T} {T} e) (by e o)      of coercions
//	(let (x {T} e) ... e)
//	(case e x {T} (_ e) (5 e) (K (a ...) (q ...) (x ...) e))
//	(cast e o) (new S {T} ... e) (old S {T} ... e)
type reader struct {
	tokens []string
	names
}

func tokens(s string) []string {
	var l []string
	for s = strings.TrimSpace(s); s != ""; s = strings.TrimSpace(s) {
		n := 1
		switch s[0] {
		case '(', ')':
		case '{':
			n = strings.Index(s, "}") + 1
		default:
			if n = strings.IndexAny(s, "(){} \n\t"); n < 0 {
				n = len(s)
			}
		}
		l, s = append(l, s[:n]), s[n:]
	}
	return l
}

func (r *reader) next() string {
	t := r.tokens[0]
	r.tokens = r.tokens[1:]
	return t
}

func (r *reader) want(t string) {
	if got := r.next(); got != t {
		panic(got + " is no " + t)
	}
}

func (r *reader) is(t string) bool { return len(r.tokens) > 0 && strings.HasPrefix(r.tokens[0], t) }

func (r *reader) typ() api.Type {
	t := r.next()
	return text.Type(strings.Trim(t, "{}"), r.types...)
}

func (r *reader) typs() []api.Type {
	var l []api.Type
	for r.is("{") {
		l = append(l, r.typ())
	}
	return l
}

// within reads something in which further names are bound.
func within[T any](r *reader, n names, read func() T) T {
	before := r.names
	r.names = names{slices.Concat(r.names.types, n.types), slices.Concat(r.cos, n.cos), slices.Concat(r.vars, n.vars)}
	made := read()
	r.names = before
	return made
}

func number(l []string, name string) (int, bool) {
	for i := range l {
		if l[len(l)-1-i] == name {
			return i, true
		}
	}
	return 0, false
}

func (r *reader) term() api.Core {
	t := r.next()
	if t != "(" {
		return r.leaf(t)
	}
	made := r.list(r.next())
	r.want(")")
	return made
}

func (r *reader) leaf(t string) api.Core {
	n, e := strconv.Atoi(t)
	i, found := number(r.vars, t)
	switch {
	case e == nil:
		return api.Core{Op: api.CInt, N: n}
	case t[0] == '$':
		return api.Core{Op: api.CGlob, S: t[1:]}
	case t[0] == '#':
		n, _ := strconv.Atoi(t[1:])
		return api.Core{Op: api.CVar, N: n}
	case found:
		return api.Core{Op: api.CVar, N: i}
	case t[0] >= 'A' && t[0] <= 'Z':
		return api.Core{Op: api.CCon, S: t}
	}
	panic(t + ": no such variable")
}

func (r *reader) list(word string) api.Core {
	switch word {
	case "lam":
		x, t := r.next(), r.typs()
		return api.Core{Op: api.CLam, Types: t, Args: within(r, names{vars: []string{x}}, r.one)}
	case "tlam":
		a, t := r.next(), r.typs()
		return api.Core{Op: api.CTLam, Types: t, Args: within(r, names{types: []string{a}}, r.one)}
	case "qlam":
		q, t := r.next(), r.typs()
		return api.Core{Op: api.CQLam, Types: t, Args: within(r, names{cos: []string{q}}, r.one)}
	case "app":
		f := r.term()
		for !r.is(")") {
			f = api.Core{Op: api.CApp, Args: []api.Core{f, r.term()}}
		}
		return f
	case "at":
		f := r.term()
		for r.is("{") {
			f = api.Core{Op: api.CTApp, Args: []api.Core{f}, Types: []api.Type{r.typ()}}
		}
		return f
	case "by":
		return api.Core{Op: api.CQApp, Args: r.one(), Co: []api.Co{r.co()}}
	case "cast":
		return api.Core{Op: api.CCast, Args: r.one(), Co: []api.Co{r.co()}}
	case "new":
		return api.Core{Op: api.CNew, S: r.next(), Types: r.typs(), Args: r.one()}
	case "old":
		return api.Core{Op: api.COld, S: r.next(), Types: r.typs(), Args: r.one()}
	case "let":
		return r.let()
	case "case":
		return r.cases()
	}
	panic(word + ": no term")
}

func (r *reader) one() []api.Core { return []api.Core{r.term()} }

// let looks ahead for the names that are bound.
func (r *reader) let() api.Core {
	var bound []string
	for i, depth := 0, 0; depth >= 0; i++ {
		switch r.tokens[i] {
		case "(":
			if depth == 0 && strings.HasPrefix(r.tokens[i+2], "{") && !isWord(r.tokens[i+1]) {
				bound = append(bound, r.tokens[i+1])
			}
			depth++
		case ")":
			depth--
		}
	}
	made := api.Core{Op: api.CLet}
	return within(r, names{vars: bound}, func() api.Core {
		for range bound {
			r.want("(")
			r.next()
			made.Types = append(made.Types, r.typ())
			made.Args = append(made.Args, r.term())
			r.want(")")
		}
		made.Args = append(made.Args, r.term())
		return made
	})
}

func isWord(s string) bool {
	return slices.Contains([]string{"lam", "tlam", "qlam", "new", "old"}, s)
}

func (r *reader) cases() api.Core {
	made := api.Core{Op: api.CCase, Args: r.one()}
	x := r.next()
	made.Types = r.typs()
	for r.is("(") {
		r.want("(")
		made.Alts = append(made.Alts, r.alt(x))
		r.want(")")
	}
	return made
}

func (r *reader) alt(x string) api.CoreAlt {
	bound := names{vars: []string{x}}
	head := r.next()
	a := api.CoreAlt{Op: api.ACon, S: head}
	if n, e := strconv.Atoi(head); e == nil {
		a = api.CoreAlt{Op: api.AInt, N: n}
	} else if head == "_" {
		a = api.CoreAlt{Op: api.AAny}
	} else {
		bound.types, bound.cos = r.words(), r.words()
		bound.vars = append(bound.vars, r.words()...)
	}
	a.Body = within(r, bound, r.term)
	return a
}

func (r *reader) words() []string {
	var l []string
	r.want("(")
	for !r.is(")") {
		l = append(l, r.next())
	}
	r.want(")")
	return l
}

// co reads a coercion:
//
//	q {T}                            variables, types
//	(sym o) (trans o o) (app o o) (imp o o) (left o) (right o)
//	(all a {k} o) (axiom S 0 {T} ...) (fam S o ...)
func (r *reader) co() api.Co {
	if r.is("{") {
		return api.Co{Op: api.ORefl, Types: r.typs()[:1]}
	}
	t := r.next()
	if t != "(" {
		n, found := number(r.cos, t)
		if t[0] == '#' {
			n, _ = strconv.Atoi(t[1:])
		} else if !found {
			panic(t + ": no such coercion")
		}
		return api.Co{Op: api.OVar, N: n}
	}
	made := r.coList(r.next())
	r.want(")")
	return made
}

func (r *reader) coList(word string) api.Co {
	ops := map[string]int{"sym": api.OSym, "trans": api.OTrans, "app": api.OApp, "imp": api.OImp, "left": api.OLeft, "right": api.ORight}
	switch word {
	case "all":
		a, t := r.next(), []api.Type{r.typ()}
		return api.Co{Op: api.OAll, Types: t, Args: within(r, names{types: []string{a}}, r.coes)}
	case "axiom":
		s := r.next()
		n, _ := strconv.Atoi(r.next())
		return api.Co{Op: api.OAxiom, S: s, N: n, Types: r.typs()}
	case "fam":
		return api.Co{Op: api.OFam, S: r.next(), Args: r.coes()}
	}
	if ops[word] == 0 {
		panic(word + ": no coercion")
	}
	return api.Co{Op: ops[word], Args: r.coes()}
}

// coes reads coercions up to the end; types stand for themselves one by one.
func (r *reader) coes() []api.Co {
	var l []api.Co
	for !r.is(")") {
		if r.is("{") {
			l = append(l, api.Co{Op: api.ORefl, Types: []api.Type{r.typ()}})
			continue
		}
		l = append(l, r.co())
	}
	return l
}

// surroundings are a context, with its names.
type surroundings struct {
	names
	kinds []api.Type
	pairs []api.Eq
	of    []api.Type
}

// around reads a context: `a : Type; q : a ~ Int; x : a -> a;` has a kind, a pair and a variable, told apart by how their names begin: a to n, q, and x to z.
func around(source string) surroundings {
	var s surroundings
	for part := range strings.SplitSeq(source, ";") {
		name, t, found := strings.Cut(part, " : ")
		if !found {
			continue
		}
		name = strings.TrimSpace(name)
		read := text.Type(t, s.types...)
		switch {
		case name[0] == 'q':
			s.cos = append(s.cos, name)
			s.pairs = append(s.pairs, api.Eq{Left: read.Args[0].Args[1], Right: read.Args[1]})
		case name[0] > 'q':
			s.vars, s.of = append(s.vars, name), append(s.of, read)
		default:
			s.types, s.kinds = append(s.types, name), append(s.kinds, read)
		}
	}
	return s
}

func (s surroundings) term(source string) api.Core {
	r := &reader{tokens: tokens(source), names: s.names}
	made := r.term()
	if len(r.tokens) > 0 {
		panic("not read: " + strings.Join(r.tokens, " "))
	}
	return made
}

func (s surroundings) co(source string) api.Co {
	r := &reader{tokens: tokens(source), names: s.names}
	made := r.co()
	if len(r.tokens) > 0 {
		panic("not read: " + strings.Join(r.tokens, " "))
	}
	return made
}

func (s surroundings) typ(source string) api.Type { return text.Type(source, s.types...) }

// showType writes a type as texts have it.
func showType(t api.Type) string {
	if !isProperType(t) {
		return "not proper"
	}
	var w writer
	w.typ(&t)
	return w.String()
}

func errorText(e api.Errno) string { return "error " + strconv.Itoa(int(e)) }
