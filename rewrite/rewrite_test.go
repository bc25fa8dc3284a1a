package rewrite

import (
	"slices"
	"testing"

	"damask/api"
	"damask/internal/text"
	"damask/leave"
	"damask/types"
)

const source = "data D : Type { }; family F : Type -> Type { }; family G : Type -> Type -> Type { }; family N : Type { }; family D : Type { }; family N : Type -> Type { };"

func TestOf(t *testing.T) {
	env := text.Families(source)
	known := Known(&env)
	for name, want := range map[string]string{"F Int": "F", "F N": "F", "G Int Bool": "G", "N": "N", "F": "", "F Int Bool": "", "G Int": "", "N Int": "", "D": "", "Int": "", "Int -> Bool": "", "F Int => N": "", "forall a. N": "", "m0": "", "m0 Int": ""} {
		x := text.Type(name)
		if f := known.Of(&x); (f == nil) != (want == "") || f != nil && f.Name != want {
			t.Error(name, f)
		}
	}
	if len(known) != 3 || known["N"] != &env.Families[2] {
		t.Error(known)
	}
}

func TestMatch(t *testing.T) {
	env := text.Families(source)
	known := Known(&env)
	names := []string{"a", "b"}
	for _, row := range []struct {
		patterns, l []string
		want        []string // what becomes of a and b, if they match
	}{
		{[]string{"a", "b"}, []string{"Int", "N"}, []string{"Int", "N"}}, {[]string{"P a b", "a"}, []string{"P m0 (F Int)", "m0"}, []string{"m0", "F Int"}}, {[]string{"P a b", "a"}, []string{"P m0 Int", "m1"}, nil}, {[]string{"a b"}, []string{"G Int Bool"}, nil}, {[]string{"a b"}, []string{"F Int Bool"}, []string{"F Int", "Bool"}}, {[]string{"a b"}, []string{"forall a. a"}, nil}, {[]string{"Int", "a", "b"}, []string{"m0", "Int", "Int"}, nil},
	} {
		got, ok := known.Match(text.Types(names, row.patterns...), text.Types(nil, row.l...))
		if ok != (row.want != nil) || ok && (len(got) != 2 || !slices.EqualFunc([]api.Type{got[1], got[0]}, text.Types(nil, row.want...), types.Same)) {
			t.Error(row, got, ok)
		}
	}
}

// TestReducer: steps can be any, also of variables; they are made from the inside to the outside and from left to right.
func TestReducer(t *testing.T) {
	var seen []string
	rule := func(x api.Type) (api.Type, bool) {
		switch text.Show(x) {
		case "rigid0":
			seen = append(seen, "r0")
			return text.Type("P r1 r1"), true
		case "rigid1":
			seen = append(seen, "r1")
			return text.Type("Int"), true
		case "P Int Int":
			seen = append(seen, "P")
			return text.Type("Bool"), true
		case "meta0":
			return text.Type("m0"), true
		case "meta1":
			return text.Type("P m1 m1"), true
		}
		return api.Type{}, false
	}
	r := Reducer{Step: rule}
	for range 2 {
		seen = nil
		got, n := r.Normal(text.Type("forall (a : r1). IO r0 -> a"))
		if want := []string{"r1", "r0", "r1", "r1", "P"}; n != 5 || text.Show(got) != "forall (a : Int). IO Bool -> a" || !slices.Equal(seen, want) {
			t.Error(text.Show(got), n, seen)
		}
	}
	for s, want := range map[string]api.Errno{"m0": api.ErrFuel, "m1": api.ErrFull, "m2": api.OK} {
		if _, e := leave.Tried(func() api.Type { x, _ := r.Normal(text.Type(s)); return x }); e != want {
			t.Error(s, e)
		}
	}
	x := text.Type("P r0 (P Int Int)")
	r.Normal(x)
	if text.Show(x) != "P rigid0 (P Int Int)" {
		t.Error("changed:", text.Show(x))
	}
}
