package rewrite

import (
	"testing"

	"damask/internal/text"
)

// TestStep: an equation is passed over only if the arguments are apart from it.
func TestStep(t *testing.T) {
	env := text.Families("family Plus : Nat -> Nat -> Nat { Plus 'Z m = m; Plus ('S n) m = 'S (Plus n m); }; family Eq : Type -> Type -> Bool { Eq a a = 'True; Eq a b = 'False; };")
	known := Known(&env)
	for source, want := range map[string]string{"Plus 'Z r0": "rigid0", "Plus ('S r0) m0": "'S (Plus rigid0 meta0)", "Plus r0 'Z": "", "Plus 'Z": "", "Int": "", "Eq Int Int": "'True", "Eq Int Bool": "'False", "Eq r0 Int": "", "Eq (List r0) (IO r0)": "'False", "Eq (Plus r0 'Z) 'Z": "", "'S (Plus 'Z 'Z)": ""} {
		got, ok := known.Step(text.Type(source))
		if ok != (want != "") || ok && text.Show(got) != want {
			t.Error(source, text.Show(got), ok)
		}
	}
	for _, row := range []struct {
		a, b string
		want bool
	}{{"Int", "Bool", true}, {"Int", "Int", false}, {"Int", "r0", false}, {"List r0", "IO r0", true}, {"List Int", "List Bool", true}, {"List Int", "Int", true}, {"Plus r0 'Z", "'Z", false}, {"Plus", "'Z", false}, {"forall a. a", "forall a. Int", false}, {"forall a. a", "Int => Int", true}, {"v0", "Int", false}} {
		a, b := text.Type(row.a), text.Type(row.b)
		if known.Clash(a, b) != row.want || known.Clash(b, a) != row.want {
			t.Error(row)
		}
	}
}
