package anew

import "damask/api"

// Problem copies a problem of constraints.
func Problem(p *api.Problem) api.Problem {
	return api.Problem{Metas: Each(p.Metas, meta), Rigids: Each(p.Rigids, rigid), Imps: Each(p.Imps, imp), Wants: Each(p.Wants, want)}
}

func meta(m *api.Meta) api.Meta {
	return api.Meta{Kind: Type(&m.Kind), Level: m.Level, Solved: m.Solved, Value: Type(&m.Value)}
}

func rigid(r *api.Rigid) api.Rigid { return api.Rigid{Kind: Type(&r.Kind), Level: r.Level} }

func imp(i *api.Imp) api.Imp { return api.Imp{Parent: i.Parent, Given: Types(i.Given)} }

func want(w *api.Want) api.Want { return api.Want{Imp: w.Imp, Type: Type(&w.Type)} }
