package core

import (
	"strconv"
	"strings"

	"damask/api"
)

// writer writes each term, coercion and type as a list in parentheses, whose first word says what it is; how many items there are behind it says what they are. So each text is that of one term alone.
type writer struct{ strings.Builder }

func textOf(c *api.Core) string {
	var w writer
	w.term(c)
	return w.String()
}

func termWord(op int) string {
	return [...]string{api.CVar: "var", api.CGlob: "glob", api.CInt: "int", api.CCon: "con", api.CLam: "lam", api.CApp: "app", api.CTLam: "tlam", api.CTApp: "tapp",
		api.CQLam: "qlam", api.CQApp: "qapp", api.CLet: "let", api.CCase: "case", api.CCast: "cast", api.CNew: "new", api.COld: "old"}[op]
}

func coWord(op int) string {
	return [...]string{api.ORefl: "refl", api.OSym: "sym", api.OTrans: "trans", api.OApp: "app", api.OAll: "all", api.OImp: "imp", api.OVar: "var",
		api.OAxiom: "axiom", api.OLeft: "left", api.ORight: "right", api.OFam: "fam"}[op]
}

func (w *writer) term(c *api.Core) {
	w.WriteString("(" + termWord(c.Op))
	if c.Op == api.CVar || c.Op == api.CInt {
		w.number(c.N)
	}
	if c.S != "" {
		w.item(name(c.S))
	}
	w.types(c.Types)
	for i := range c.Args {
		w.WriteString(" ")
		w.term(&c.Args[i])
	}
	for i := range c.Alts {
		w.WriteString(" ")
		w.alt(&c.Alts[i])
	}
	w.coercions(c.Co)
	w.WriteString(")")
}

func (w *writer) alt(a *api.CoreAlt) {
	switch a.Op {
	case api.AAny:
		w.WriteString("(any ")
	case api.ACon:
		w.WriteString("(is " + name(a.S) + " ")
	case api.AInt:
		w.WriteString("(num " + strconv.Itoa(a.N) + " ")
	}
	w.term(&a.Body)
	w.WriteString(")")
}

func (w *writer) coercions(l []api.Co) {
	for i := range l {
		w.WriteString(" ")
		w.co(&l[i])
	}
}

func (w *writer) co(o *api.Co) {
	w.WriteString("(" + coWord(o.Op))
	if o.S != "" {
		w.item(name(o.S))
	}
	if o.Op == api.OVar || o.Op == api.OAxiom {
		w.number(o.N)
	}
	w.types(o.Types)
	w.coercions(o.Args)
	w.WriteString(")")
}

func (w *writer) item(s string) { w.WriteString(" " + s) }

func (w *writer) number(n int) { w.item(strconv.Itoa(n)) }

func (w *writer) types(l []api.Type) {
	for i := range l {
		w.WriteString(" ")
		w.typ(&l[i])
	}
}

// typ writes a type: one that is applied is a list of two, a forall or an implication one of three.
func (w *writer) typ(t *api.Type) {
	switch t.Op {
	case api.YVar:
		w.WriteString("#" + strconv.Itoa(t.N))
	case api.YMeta:
		w.WriteString("?" + strconv.Itoa(t.N))
	case api.YRigid:
		w.WriteString("!" + strconv.Itoa(t.N))
	case api.YCon:
		w.WriteString(name(t.S))
	case api.YApp:
		w.both("(", t)
	case api.YAll:
		w.both("(forall ", t)
	case api.YImp:
		w.both("(=> ", t)
	}
}

func (w *writer) both(before string, t *api.Type) {
	w.WriteString(before)
	w.typ(&t.Args[0])
	w.WriteString(" ")
	w.typ(&t.Args[1])
	w.WriteString(")")
}

// name returns a name as it is, or in quotes if it could be taken for something else.
func name(s string) string {
	odd := func(r rune) bool { return r <= ' ' || r > '~' || strings.ContainsRune(`()"`, r) }
	if strings.ContainsFunc(s, odd) || strings.ContainsRune("#?!", rune(s[0])) {
		return strconv.Quote(s)
	}
	return s
}
