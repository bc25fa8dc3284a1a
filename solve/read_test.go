package solve

import (
	"damask/api"
	"damask/internal/text"
)

func con(s string) api.Type         { return api.Type{Op: api.YCon, S: s} }
func meta(n int) api.Type           { return api.Type{Op: api.YMeta, N: n} }
func rigid(n int) api.Type          { return api.Type{Op: api.YRigid, N: n} }
func app(f, a api.Type) api.Type    { return api.Type{Op: api.YApp, Args: []api.Type{f, a}} }
func list(l ...api.Type) []api.Type { return l }

func read(t string) api.Type { return text.Type(t) }
func show(t api.Type) string { return text.Show(t) }
