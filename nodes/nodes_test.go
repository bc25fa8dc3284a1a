package nodes

import (
	"reflect"
	"slices"
	"testing"

	"damask/api"
)

func con(s string) api.Type { return api.Type{Op: api.YCon, S: s} }
func bound(n int) api.Type  { return api.Type{Op: api.YVar, N: n} }
func both(op int, name string, a, b api.Type) api.Type {
	return api.Type{Op: op, S: name, Args: []api.Type{a, b}}
}

// sample is `forall (a : #0 => K). (forall (b : #0). #1) #2`.
func sample(a, b string) api.Type {
	kind := both(api.YImp, "", bound(0), con("K"))
	return both(api.YAll, a, kind, both(api.YApp, "", both(api.YAll, b, bound(0), bound(1)), bound(2)))
}

// TestVisit: nodes come before their Args, and a forall is around its body alone.
func TestVisit(t *testing.T) {
	var l [][3]int
	Visit(sample("a", "b"), func(t api.Type, around int) { l = append(l, [3]int{t.Op, t.N, around}) })
	want := [][3]int{{api.YAll, 0, 0}, {api.YImp, 0, 0}, {api.YVar, 0, 0}, {api.YCon, 0, 0}, {api.YApp, 0, 1}, {api.YAll, 0, 1}, {api.YVar, 0, 1}, {api.YVar, 1, 2}, {api.YVar, 2, 1}}
	if !slices.Equal(l, want) {
		t.Error(l)
	}
}

// TestReplace: leaves become what a function says, foralls lose their names, and the argument stays as it is.
func TestReplace(t *testing.T) {
	x := sample("a", "b")
	got := Replace(x, func(leaf api.Type, around int) api.Type {
		if leaf.Op == api.YVar {
			leaf.N += 10 * around
		}
		return leaf
	})
	kind := both(api.YImp, "", bound(0), con("K"))
	want := both(api.YAll, "", kind, both(api.YApp, "", both(api.YAll, "", bound(10), bound(21)), bound(12)))
	if !reflect.DeepEqual(got, want) {
		t.Error(got)
	}
	got.Args[0].Args[1].S = "?"
	if !reflect.DeepEqual(x, sample("a", "b")) {
		t.Error("changed:", x)
	}
}
