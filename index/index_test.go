package index

import (
	"testing"

	"damask/api"
	"damask/decl"
)

func TestNew(t *testing.T) {
	env := decl.Builtin()
	env.Classes = []api.Class{{Name: "C"}, {Name: "D"}, {Name: "C", Vars: []api.Type{{}}}}
	env.Data = append(env.Data, api.DataType{Name: "Bool"}, api.DataType{Name: "T", New: true})
	env.Cons = append(env.Cons, api.DataCon{Name: "True", Data: "T"})
	l := New(&env)
	if l.Data["Bool"] != &env.Data[0] || !l.Data["T"].New || l.Data["C"] != nil || len(l.Data) != 7 {
		t.Error(l.Data)
	}
	if l.Cons["True"] != &env.Cons[1] || l.Cons["No"] != nil || len(l.Cons) != 3 {
		t.Error(l.Cons)
	}
	if l.Classes["C"] != &env.Classes[0] || l.Classes["D"] != &env.Classes[1] || len(l.Classes) != 2 {
		t.Error(l.Classes)
	}
	if none := New(&api.Env{}); len(none.Data)+len(none.Cons)+len(none.Classes) != 0 {
		t.Error(none)
	}
}
