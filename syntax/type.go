package syntax

import "damask/api"

func (r *reader) typ() api.Type {
	if r.text() == "forall" {
		binders := r.binders()
		return forAll(binders, r.typ())
	}
	left := r.btype()
	switch {
	case r.accept("~"):
		equal := applied(constant("~"), left, r.btype())
		if r.accept("=>") {
			return implied(equal, r.typ())
		}
		return equal
	case r.accept("=>"):
		return implied(left, r.typ())
	case r.accept("->"):
		return function(left, r.typ())
	}
	return left
}

// binders reads a forall up to its point.
func (r *reader) binders() []api.Binder {
	r.expect("forall")
	l := []api.Binder{r.binder()}
	for !r.accept(".") {
		l = append(l, r.binder())
	}
	return l
}

func (r *reader) binder() api.Binder {
	if r.kind() == api.TVar {
		return api.Binder{Name: r.small(), Kind: constant("Type")}
	}
	r.expect("(")
	name := r.small()
	r.expect(":")
	b := api.Binder{Name: name, Kind: r.typ()}
	r.expect(")")
	return b
}

func (r *reader) btype() api.Type {
	t := r.atype()
	for r.startsAtype() {
		t = applied(t, r.atype())
	}
	return t
}

func (r *reader) startsAtype() bool {
	k, s := r.kind(), r.text()
	return k == api.TCon || k == api.TVar || s == "'" || s == "("
}

func (r *reader) atype() api.Type {
	switch {
	case r.kind() == api.TVar:
		return api.Type{Op: api.YName, S: r.small()}
	case r.accept("'"):
		return constant("'" + r.capital())
	case !r.accept("("):
		return constant(r.capital())
	}
	var t api.Type
	if r.accept("->") {
		t = constant("->")
	} else {
		t = r.typ()
	}
	r.expect(")")
	return t
}

func constant(name string) api.Type { return api.Type{Op: api.YCon, S: name} }

func applied(f api.Type, args ...api.Type) api.Type {
	for _, a := range args {
		f = api.Type{Op: api.YApp, Args: []api.Type{f, a}}
	}
	return f
}

func function(from, to api.Type) api.Type { return applied(constant("->"), from, to) }

func implied(constraint, body api.Type) api.Type {
	return api.Type{Op: api.YImp, Args: []api.Type{constraint, body}}
}

// forAll binds variables around a type, the first one outermost.
func forAll(l []api.Binder, t api.Type) api.Type {
	for i := len(l) - 1; i >= 0; i-- {
		t = api.Type{Op: api.YAll, S: l[i].Name, Args: []api.Type{l[i].Kind, t}}
	}
	return t
}

// freeNames lists the variables that no forall binds; the kind of a forall's variable stands outside of what it binds.
func freeNames(t api.Type) []string {
	var l []string
	seen := map[string]bool{}
	bound := map[string]int{}
	var walk func(t api.Type)
	walk = func(t api.Type) {
		switch t.Op {
		case api.YName:
			if bound[t.S] == 0 && !seen[t.S] {
				seen[t.S] = true
				l = append(l, t.S)
			}
		case api.YAll:
			walk(t.Args[0])
			bound[t.S]++
			walk(t.Args[1])
			bound[t.S]--
		default:
			for _, a := range t.Args {
				walk(a)
			}
		}
	}
	walk(t)
	return l
}
