package proper

import (
	"strings"
	"testing"

	"damask/api"
)

func con(s string) api.Type      { return api.Type{Op: api.YCon, S: s} }
func app(f, a api.Type) api.Type { return api.Type{Op: api.YApp, Args: []api.Type{f, a}} }

// nested is that deep.
func nested(depth int) api.Type {
	if depth == 1 {
		return con("A")
	}
	return app(nested(depth-1), con("A"))
}

// wide has so many nodes, an odd number, and is not deep.
func wide(nodes int) api.Type {
	if nodes == 1 {
		return con("A")
	}
	left := (nodes - 1) / 2
	left -= 1 - left%2
	return app(wide(left), wide(nodes-1-left))
}

func TestType(t *testing.T) {
	both := []api.Type{con("A"), con("A")}
	for _, x := range []api.Type{
		con("A"), con(strings.Repeat("A", 40)), app(con("A"), con("A")), {Op: api.YAll, Args: both}, {Op: api.YImp, Args: both},
		{Op: api.YVar}, {Op: api.YMeta, N: 9999}, {Op: api.YRigid, N: 1}, nested(40), wide(599),
	} {
		if !Type(x) {
			t.Error(x)
		}
	}
	for i, x := range []api.Type{
		{}, {Op: api.YName, S: "a"}, con(""), con(strings.Repeat("A", 41)), {Op: api.YCon, S: "A", N: 1}, {Op: api.YCon, S: "A", Args: both},
		{Op: api.YVar, N: -1}, {Op: api.YVar, N: 10000}, {Op: api.YVar, S: "a"}, {Op: api.YRigid, Args: both}, {Op: api.YVar, N: 10000, S: "a", Args: both},
		{Op: api.YApp}, {Op: api.YApp, N: 1, Args: both}, {Op: api.YAll, S: "a", Args: both}, {Op: api.YImp, Args: both[:1]},
		app(con("A"), con("")), nested(41), wide(601),
	} {
		if Type(x) {
			t.Error(i)
		}
	}
}

func TestIsNumber(t *testing.T) {
	for n, want := range map[int]bool{-1: false, 0: true, 9999: true, 10000: false, -1 << 63: false, 1<<63 - 1: false} {
		if IsNumber(n) != want {
			t.Error(n)
		}
	}
}
