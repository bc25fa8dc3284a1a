package kind

import (
	"strconv"
	"testing"

	"damask/api"
	"damask/internal/text"
	"damask/types"
)

const rounds = 1500

// sampled is a type that has a kind in a context.
type sampled struct {
	ctx     []api.Type
	t, kind api.Type
}

// each makes types until there are enough of them, in environments and contexts that change.
func each(t *testing.T, seed int64, test func(m *maker, s sampled)) {
	m := newMaker(seed)
	made := 0
	for i := 0; made < rounds; i++ {
		if i > 20*rounds {
			t.Fatal("too few types have been made:", made)
		}
		if i%50 == 0 {
			m = newMaker(seed + int64(i))
		}
		ctx := m.context()
		kind := m.kind(ctx)
		if x, ok := m.typ(ctx, kind, 1+i%5); ok {
			made++
			test(m, sampled{ctx, x, kind})
		}
	}
}

// TestMade: types have the kinds that they are made for, and these the kind Type in their context, which is right.
func TestMade(t *testing.T) {
	count := map[int]int{}
	each(t, 1, func(m *maker, s sampled) {
		k, e := Kind(m.env, m.metas, m.rigids, s.ctx, s.t)
		if e != api.OK || !types.Same(k, s.kind) {
			t.Fatal(show(s.t), show(k), show(s.kind), e)
		}
		if e := Check(m.env, m.metas, m.rigids, s.ctx, s.t, s.kind); e != api.OK {
			t.Fatal(show(s.t), e)
		}
		if kk, e := Kind(m.env, m.metas, m.rigids, s.ctx, k); e != api.OK || show(kk) != "Type" {
			t.Fatal(show(k), show(kk), e)
		}
		if e := Context(m.env, onlyBound(s.ctx)); e != api.OK {
			t.Fatal(s.ctx, e)
		}
		size, _ := types.Size(s.t)
		count[min(size/8, 3)]++
	})
	for i := range 4 {
		if count[i] < rounds/40 {
			t.Error("too few types of this size:", i, count)
		}
	}
}

// onlyBound is the beginning of a context without metavariables and rigid variables.
func onlyBound(ctx []api.Type) []api.Type {
	for i, k := range ctx {
		metas, _ := types.Metas(k)
		if rigids, _ := types.Rigids(k); len(metas)+len(rigids) > 0 {
			return ctx[:i]
		}
	}
	return ctx
}

// TestOracle holds kinds and errors against those that the oracle finds, of spoiled types mostly.
func TestOracle(t *testing.T) {
	count := map[api.Errno]int{}
	each(t, 2, func(m *maker, s sampled) {
		x := s.t
		for range m.Intn(3) {
			x = m.spoiled(x)
		}
		want, wrong := oracle(m, s.ctx, x)
		k, e := Kind(m.env, m.metas, m.rigids, s.ctx, x)
		if e != wrong || !types.Same(k, want) {
			t.Fatal(show(x), show(k), show(want), e, wrong)
		}
		count[e]++
	})
	for _, e := range []api.Errno{api.OK, api.ErrName, api.ErrNone, api.ErrForm, api.ErrKind} {
		if count[e] < rounds/100 {
			t.Error("too few with this error:", e, count)
		}
	}
}

// TestPut: the kind is kept when types of the right kinds are put for the last variables.
func TestPut(t *testing.T) {
	done := 0
	each(t, 3, func(m *maker, s sampled) {
		for range 4 {
			outer, l := m.values(s.ctx)
			put, e := types.Put(s.t, l)
			want, e2 := types.Put(s.kind, l)
			k, e3 := Kind(m.env, m.metas, m.rigids, outer, put)
			if e != api.OK || e2 != api.OK || e3 == api.ErrFull {
				continue
			}
			if e3 != api.OK || !types.Same(k, want) {
				t.Fatal(show(s.t), show(put), show(k), show(want), e3)
			}
			if free, _ := types.Free(s.t); len(free) > 0 && free[0] < len(l) {
				done++
			}
		}
	})
	if done < rounds/5 {
		t.Error("too few types have been put:", done)
	}
}

// values makes types of the right kinds for the last variables of a context, and returns what is left of the context.
func (m *maker) values(ctx []api.Type) (outer, l []api.Type) {
	from := m.Intn(len(ctx) + 1)
	for _, k := range ctx[from:] {
		k, _ := types.Put(k, l)
		x, ok := m.typ(ctx[:from], k, 1)
		if !ok {
			return ctx, nil
		}
		l = append(l, x)
	}
	return ctx[:from], l
}

// TestResolve: the kind is kept when metavariables are resolved by values of their kinds.
func TestResolve(t *testing.T) {
	done := 0
	each(t, 4, func(m *maker, s sampled) {
		metas := append([]api.Meta{}, m.metas...)
		known := m.metas
		for i := range metas { // a value has only metavariables before its own one, so that there is no ring
			m.metas = metas[:i]
			value, ok := m.typ(nil, metas[i].Kind, 2)
			if ok && m.Intn(3) > 0 {
				metas[i] = api.Meta{Kind: metas[i].Kind, Solved: true, Value: value}
			}
		}
		m.metas = known
		x, e := types.Resolve(metas, s.t)
		if l, _ := types.Metas(s.kind); e != api.OK || len(l) > 0 || hasMetas(metas) {
			return
		}
		var ctx []api.Type
		for _, k := range s.ctx {
			k, e := types.Resolve(metas, k)
			if e != api.OK {
				return
			}
			ctx = append(ctx, k)
		}
		k, e := Kind(m.env, metas, m.rigids, ctx, x)
		if e != api.ErrFull && (e != api.OK || !types.Same(k, s.kind)) {
			t.Fatal(show(s.t), show(x), show(k), show(s.kind), e)
		}
		if !types.Same(x, s.t) {
			done++
		}
	})
	if done < rounds/20 {
		t.Error("too few types have been resolved:", done)
	}
}

// hasMetas reports whether there are metavariables in the kinds of metavariables.
func hasMetas(l []api.Meta) bool {
	for _, x := range l {
		if n, _ := types.Metas(x.Kind); len(n) > 0 {
			return true
		}
	}
	return false
}

// TestFurther: with further declarations, metavariables, rigid variables and variables outside kinds remain, and so do errors but ErrName and ErrNone.
func TestFurther(t *testing.T) {
	each(t, 5, func(m *maker, s sampled) {
		x := s.t
		if m.Intn(2) == 0 {
			x = m.spoiled(x)
		}
		k, e := Kind(m.env, m.metas, m.rigids, s.ctx, x)
		env := m.env
		env.Data = append([]api.DataType{{Name: "Missing", Kind: con("Nat")}}, env.Data...)
		env.Families = append(env.Families[:len(env.Families):len(env.Families)], api.Family{Name: "Further", Kind: con("Nat"), Arity: 3})
		env.Classes = append([]api.Class{{Name: "More"}}, env.Classes...)
		env.Cons = append([]api.DataCon{{Name: "More", Data: "Nat"}}, env.Cons...)
		metas, rigids := append(m.metas[:6:6], api.Meta{Kind: con("Type")}), append(m.rigids[:3:3], api.Rigid{Kind: con("Type")})
		k2, e2 := Kind(env, metas, rigids, s.ctx, x)
		if e != api.ErrName && e != api.ErrNone && (e2 != e || !types.Same(k2, k)) {
			t.Fatal(show(x), show(k), show(k2), e, e2)
		}
		outer := append(list(con("Nat"), con("Type")), s.ctx...)
		if k3, e3 := Kind(m.env, m.metas, m.rigids, outer, x); e == api.OK && (e3 != api.OK || !types.Same(k3, k)) {
			t.Fatal(show(x), show(k), show(k3), e3)
		}
	})
}

// TestNewMemory: arguments stay as they are, and no result shares memory with them or with itself.
func TestNewMemory(t *testing.T) {
	each(t, 6, func(m *maker, s sampled) {
		before, context, shown := show(s.t), s.ctx, ""
		for _, k := range context {
			shown += show(k)
		}
		k, _ := Kind(m.env, m.metas, m.rigids, s.ctx, s.t)
		_, left, _ := Arity(s.kind)
		c, _ := Constant(m.env, m.constants[m.Intn(len(m.constants))].t.S)
		p, _ := Promoted(m.env, "Cons")
		for _, x := range list(k, left, c, p) {
			text.Spoil(x)
		}
		after := ""
		for _, k := range context {
			after += show(k)
		}
		if k, e := Kind(m.env, m.metas, m.rigids, s.ctx, s.t); show(s.t) != before || after != shown || e != api.OK || !types.Same(k, s.kind) {
			t.Fatal("changed:", before, show(k), e)
		}
	})
	m := newMaker(6)
	for _, c := range m.constants {
		if k, e := Constant(m.env, c.t.S); e != api.OK || types.Check(k) != api.OK {
			t.Error("changed:", c.t.S)
		}
	}
}

// garbage makes anything, nested as one likes.
func (m *maker) garbage(depth int) api.Type {
	x := api.Type{Op: m.Intn(10), N: m.Intn(4), S: []string{"", "Nat", "'Z", "~", "->", "'"}[m.Intn(6)]}
	if m.Intn(4) > 0 { // often in form
		x.Op = 1 + m.Intn(7)
		if x.Op == api.YCon {
			x.N = 0
		} else {
			x.S = ""
		}
	}
	if x.Op < api.YApp || x.Op > api.YImp {
		return x
	}
	x.N = 0
	for range 2 {
		if depth > 0 {
			x.Args = append(x.Args, m.garbage(depth-1))
		}
	}
	return x
}

func (m *maker) garbages() []api.Type {
	var l []api.Type
	for range m.Intn(3) {
		l = append(l, m.garbage(2))
	}
	return l
}

// TestGarbage: there is a result for all arguments, the same one again, and nothing beside an error.
func TestGarbage(t *testing.T) {
	m := newMaker(7)
	count := map[api.Errno]int{}
	for range 20000 {
		env := api.Env{
			Data:     []api.DataType{{Name: "Nat", Kind: m.garbage(2)}, {Name: "->", Kind: m.garbage(2)}},
			Families: []api.Family{{Name: []string{"Nat", "F"}[m.Intn(2)], Kind: m.garbage(2), Arity: m.Intn(5) - 2}},
			Classes:  []api.Class{{Name: "F", Vars: m.garbages()}},
			Cons:     []api.DataCon{{Name: []string{"Z", ""}[m.Intn(2)], Data: "Nat", Univ: m.garbages(), Exis: m.garbages(), Args: m.garbages()}},
		}
		metas, rigids := []api.Meta{{Kind: con("Type")}}, []api.Rigid{{Kind: m.garbage(1)}}
		x, ctx, name := m.garbage(3), m.garbages(), []string{"Nat", "F", "'Z", "", "~"}[m.Intn(5)]
		again := map[string]bool{}
		for range 2 {
			k, e := Kind(env, metas, rigids, ctx, x)
			c, e2 := Constant(env, name)
			p, e3 := Promoted(env, name)
			n, left, e4 := Arity(x)
			e5, e6 := Check(env, metas, rigids, ctx, x, k), Context(env, ctx)
			for _, r := range []outcome{{e, k}, {e2, c}, {e3, p}, {e4, left}} {
				if (r.e == api.OK) != (types.Check(r.t) == api.OK) || r.e != api.OK && !types.Same(r.t, api.Type{}) {
					t.Fatal(x, r)
				}
			}
			if e == api.OK && e5 != api.OK || e4 != api.OK && n != 0 {
				t.Fatal(x, k, e5, n, e4)
			}
			again[show(k)+show(c)+show(p)+show(left)+strconv.Itoa(int(e6))] = true
			count[e]++
		}
		if len(again) != 1 {
			t.Fatal(x, again)
		}
	}
	for _, e := range []api.Errno{api.OK, api.ErrArg, api.ErrName, api.ErrNone, api.ErrForm, api.ErrKind, api.ErrFull} {
		if count[e] < 20 {
			t.Error("too few with this error:", e, count)
		}
	}
}

// outcome is a type with an error.
type outcome struct {
	e api.Errno
	t api.Type
}
