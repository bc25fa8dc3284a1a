package syntax

import "damask/api"

func (r *reader) pat() api.Pat {
	if r.kind() != api.TCon {
		return r.apat()
	}
	name := r.capital()
	return api.Pat{Op: api.PCon, S: name, Args: r.apats()}
}

// apats reads as many patterns as stand here.
func (r *reader) apats() []api.Pat {
	var l []api.Pat
	for r.startsApat() {
		l = append(l, r.apat())
	}
	return l
}

func (r *reader) startsApat() bool {
	switch r.kind() {
	case api.TVar, api.TCon, api.TInt:
		return true
	}
	switch r.text() {
	case "_", "(", "!", "~":
		return true
	}
	return false
}

func (r *reader) apat() api.Pat {
	switch r.kind() {
	case api.TVar:
		name := r.small()
		if r.accept("@") {
			return api.Pat{Op: api.PAs, S: name, Args: []api.Pat{r.apat()}}
		}
		return api.Pat{Op: api.PVar, S: name}
	case api.TCon:
		return api.Pat{Op: api.PCon, S: r.capital()}
	case api.TInt:
		return api.Pat{Op: api.PInt, N: r.number()}
	}
	switch {
	case r.accept("_"):
		return api.Pat{Op: api.PWild}
	case r.accept("!"):
		return api.Pat{Op: api.PBang, Args: []api.Pat{r.apat()}}
	case r.accept("~"):
		return api.Pat{Op: api.PLazy, Args: []api.Pat{r.apat()}}
	}
	r.expect("(")
	p := r.pat()
	r.expect(")")
	return p
}
