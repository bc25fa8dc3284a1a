package cover

import "damask/api"

// form returns what counts of a pattern: PWild, PInt or PCon.
func form(p *api.Pat) api.Pat {
	for {
		switch p.Op {
		case api.PAs, api.PBang:
			p = &p.Args[0]
		case api.PLazy, api.PVar:
			return wild()
		default:
			return *p
		}
	}
}

func wild() api.Pat { return api.Pat{Op: api.PWild} }

// areAlike reports whether two forms are the same, but for what is in them.
func areAlike(a, b *api.Pat) bool { return a.Op == b.Op && a.S == b.S && a.N == b.N }

func allMatch(row, values []api.Pat) bool {
	for i := range row {
		if !matches(&row[i], &values[i]) {
			return false
		}
	}
	return true
}

// matches reports whether a pattern matches a value.
func matches(p, value *api.Pat) bool {
	f := form(p)
	if f.Op == api.PWild {
		return true
	}
	return areAlike(&f, value) && len(f.Args) == len(value.Args) && allMatch(f.Args, value.Args)
}

// copied returns a pattern in new memory.
func copied(p *api.Pat) api.Pat {
	made := api.Pat{Op: p.Op, S: p.S, N: p.N}
	for i := range p.Args {
		made.Args = append(made.Args, copied(&p.Args[i]))
	}
	return made
}
