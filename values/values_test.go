package values

import (
	"testing"

	"damask/api"
	"damask/internal/text"
)

func solved(source string) api.Meta { return api.Meta{Solved: true, Value: text.Type(source)} }

func TestPut(t *testing.T) {
	metas := []api.Meta{solved("List m1"), solved("Pair m2 m2"), {Value: text.Type("Bool")}, solved("forall a. a -> m0"), solved("Int")}
	for source, want := range map[string]string{"m2": "meta2", "m4 -> r1": "Int -> rigid1", "m0": "List (Pair meta2 meta2)", "forall (a : m4). Eq m1 => m3": "forall (a : Int). Eq (Pair meta2 meta2) => forall b. b -> List (Pair meta2 meta2)"} {
		got, e := Put(metas, text.Type(source))
		if text.Show(got) != want || e != api.OK {
			t.Error(source, text.Show(got), e)
		}
		text.Spoil(got)
		if again, e := Put(metas, text.Type(source)); text.Show(again) != want || e != api.OK {
			t.Error("spoiled:", source, text.Show(again), e)
		}
	}
}

// TestFull: each value doubles the one before it, so that without knowing when to stop there would be no end.
func TestFull(t *testing.T) {
	metas := []api.Meta{solved("Int")}
	for n := range 60 {
		m := api.Type{Op: api.YMeta, N: n}
		metas = append(metas, api.Meta{Solved: true, Value: api.Type{Op: api.YApp, Args: []api.Type{m, m}}})
	}
	for n, want := range map[int]api.Errno{8: api.OK, 9: api.ErrFull, 60: api.ErrFull} {
		if _, e := Put(metas, api.Type{Op: api.YMeta, N: n}); e != want {
			t.Error(n, e)
		}
	}
}
