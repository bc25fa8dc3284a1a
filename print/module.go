package print

import (
	"slices"
	"strconv"

	"damask/api"
)

func moduleText(m api.Module) string {
	imports := list(m.Imports, "", func(i api.Import) string {
		return line(words("import", i.Module, namesText(i.All, i.Names)))
	})
	decls := list(clauses(m.Decls), "", line)
	return words("module", m.Name, namesText(m.All, m.Exports), "{") + "\n" + imports + decls + "}\n"
}

func line(text string) string { return "  " + text + ";\n" }

// namesText writes a list of names, if there is one.
func namesText(all bool, l []string) string {
	if all {
		return ""
	}
	return "(" + list(l, ", ", variableText) + ")"
}

// clauses returns the texts of declarations: one for each Alt of a DBind.
func clauses(l []api.Decl) []string {
	var texts []string
	for _, d := range l {
		if d.Op != api.DBind {
			texts = append(texts, declText(d))
		}
		for _, a := range d.Alts {
			texts = append(texts, clauseText(d.Name, a))
		}
	}
	return texts
}

func localsText(l []api.Decl) string { return braces(clauses(l), itself) }

func clauseText(name string, a api.Alt) string {
	if len(a.Pats) == 2 && isOperator(name) {
		return words(patIn(a.Pats[0], anyPat), name, patIn(a.Pats[1], anyPat), valuesText(a, "="))
	}
	return words(variableText(name), argumentsText(a.Pats), valuesText(a, "="))
}

// declText writes a declaration that is no DBind.
func declText(d api.Decl) string {
	switch d.Op {
	case api.DData:
		return dataText("data", d)
	case api.DNew:
		return dataText("newtype", d)
	case api.DFamily:
		return words("family", sigText(d.Name, d.Type), braces(d.Eqs, equationText))
	case api.DClass:
		return classText(d)
	case api.DInst:
		return words("instance", typeIn(d.Type, anyType), localsText(d.Decls))
	case api.DSig:
		return sigText(variableText(d.Name), d.Type)
	}
	return words(d.S, strconv.Itoa(d.N), d.Name)
}

func dataText(word string, d api.Decl) string {
	deriving := ""
	if len(d.Deriving) > 0 {
		deriving = words("deriving", namesText(false, d.Deriving))
	}
	return words(word, sigText(d.Name, d.Type), deriving, braces(d.Cons, conText))
}

func conText(c api.Con) string {
	if len(c.Fields) == 0 {
		return sigText(c.Name, c.Type)
	}
	binders, t := foralls(c.Type)
	var fields []string
	for _, f := range c.Fields {
		fields = append(fields, sigText(f, t.Args[0].Args[1]))
		t = t.Args[1]
	}
	record := words("{", list(fields, ", ", itself), "}")
	return words(c.Name, ":", forallText(binders), record, "->", typeIn(t, anyType))
}

func equationText(e api.Eq) string {
	return words(typeIn(e.Left, application), "=", typeIn(e.Right, anyType))
}

func classText(d api.Decl) string {
	context := list(d.Context, " ", func(t api.Type) string { return words(typeIn(t, application), "=>") })
	variables := list(d.Vars, " ", func(b api.Binder) string {
		text := binderText(b)
		return enclosed(text, text == b.Name)
	})
	deps := list(d.Deps, ", ", func(x api.Dep) string {
		return words(slices.Concat(x.From, []string{"->"}, x.To)...)
	})
	if deps != "" {
		deps = words("|", deps)
	}
	methods := braces(d.Sigs, func(s api.Sig) string { return sigText(variableText(s.Name), s.Type) })
	return words("class", context, d.Name, variables, deps, methods)
}
