package scope

import (
	"math/rand"
	"reflect"
	"slices"
	"strconv"
	"strings"
	"testing"

	"damask/api"
	"damask/free"
	"damask/internal/sample"
	"damask/syntax"
)

const rounds = 3000

func newMaker(seed int64) sample.Maker {
	return sample.Maker{Choose: rand.New(rand.NewSource(seed)).Intn}
}

// split resolves operators from the weakest ones on: these must be of one side, at which the outermost one stands.
func split(fields []string, args []api.Expr, known map[string]strength) (api.Expr, bool) {
	if len(fields) == 0 {
		return args[0], true
	}
	weakest, at, sides := 10, 0, map[string]bool{}
	for i, f := range fields {
		s := known[f]
		if s.n < weakest {
			weakest, at, sides = s.n, i, map[string]bool{s.side: true}
		} else if s.n == weakest {
			sides[s.side] = true
			if s.side == "infixl" {
				at = i
			}
			if s.side == "infix" || len(sides) > 1 {
				return api.Expr{}, false
			}
		}
	}
	left, ok := split(fields[:at], args[:at+1], known)
	right, ok2 := split(fields[at+1:], args[at+1:], known)
	return applied(variable(fields[at]), left, right), ok && ok2
}

// TestStrengthAgain holds Strength against split.
func TestStrengthAgain(t *testing.T) {
	r := rand.New(rand.NewSource(1))
	count := map[api.Errno]int{}
	for range rounds {
		var fixes []api.Decl
		var names []string
		known := map[string]strength{}
		for i := range 4 {
			name := strings.Repeat("+", i+1)
			names = append(names, name)
			known[name] = usual
			if r.Intn(5) > 0 {
				f := fix(name, []string{"infixl", "infixr", "infixl", "infixr", "infix"}[r.Intn(5)], 6+r.Intn(4))
				fixes = append(fixes, f)
				known[name] = strength{f.N, f.S}
			}
		}
		e := api.Expr{Op: api.XOps, Args: []api.Expr{{Op: api.XInt}}}
		for i := range 1 + r.Intn(7) {
			e.Fields = append(e.Fields, names[r.Intn(4)])
			e.Args = append(e.Args, api.Expr{Op: api.XInt, N: i + 1})
		}
		want, ok := split(e.Fields, e.Args, known)
		got, wrong := Strength(names, fixes, e)
		count[wrong]++
		if ok != (wrong == api.OK) || wrong != api.OK && wrong != api.ErrForm || ok && !syntax.SameExpr(got, want) {
			t.Fatal(e.Fields, fixes, showExpr(got), showExpr(want), wrong)
		}
	}
	if count[api.OK] < rounds/5 || count[api.ErrForm] < rounds/5 {
		t.Error("too much alike:", count)
	}
}

func leaves(e api.Expr) []string {
	var l []string
	seen := func(x api.Expr) {
		if x.Op == api.XVar || x.Op == api.XInt {
			l = append(l, x.S+strconv.Itoa(x.N))
		}
	}
	visit(&e, seen)
	return l
}

// visit goes through all expressions within one, but not from left to right.
func visit(e *api.Expr, seen func(api.Expr)) {
	everywhere(reflect.ValueOf(e).Elem(), func(v reflect.Value) {
		if x, ok := v.Interface().(api.Expr); ok {
			seen(x)
		}
	})
}

func everywhere(v reflect.Value, seen func(reflect.Value)) {
	seen(v)
	switch v.Kind() {
	case reflect.Struct:
		for i := range v.NumField() {
			everywhere(v.Field(i), seen)
		}
	case reflect.Slice:
		for i := range v.Len() {
			everywhere(v.Index(i), seen)
		}
	}
}

// TestStrengthInside: of any expression no XOps is left, its operators and leaves are, and a second time nothing changes.
func TestStrengthInside(t *testing.T) {
	m := newMaker(2)
	all := strings.Fields("+ == |> !~ \\/ @@")
	done := 0
	for i := range rounds {
		x := m.Expr(2 + i%5)
		var fixes []api.Decl
		for _, name := range all {
			fixes = append(fixes, fix(name, m.One("infixl", "infixl", "infixr"), m.Choose(10)))
		}
		got, e := Strength(all, fixes, x)
		if e != api.OK {
			if e != api.ErrForm && e != api.ErrFull {
				t.Fatal(e, showExpr(x))
			}
			continue
		}
		done++
		before := leaves(x)
		visit(&x, func(y api.Expr) {
			if y.Op == api.XOps {
				for _, f := range y.Fields {
					before = append(before, f+"0")
				}
			}
		})
		visit(&got, func(y api.Expr) {
			if y.Op == api.XOps {
				t.Fatal("left:", showExpr(got))
			}
		})
		after := leaves(got)
		slices.Sort(before)
		slices.Sort(after)
		again := strengthened(all, fixes, &got)
		if !slices.Equal(before, after) || !syntax.SameExpr(got, again) {
			t.Fatal(showExpr(x), showExpr(got))
		}
	}
	if done < rounds/3 {
		t.Error("too few:", done)
	}
}

// TestFreeInside: a function binds one variable more; what is free is named somewhere; XOps and a do count as what they become.
func TestFreeInside(t *testing.T) {
	m := newMaker(3)
	for i := range rounds {
		x := m.Expr(1 + i%5)
		free, e := Free(x)
		if e == api.ErrFull {
			continue
		}
		named := []string{"bind"}
		visit(&x, func(y api.Expr) { named = append(append(named, y.S), y.Fields...) })
		for _, name := range append(free, "x", "+", "bind") {
			if slices.Contains(free, name) && !slices.Contains(named, name) {
				t.Fatal(name, showExpr(x))
			}
			less, _ := Free(lambda(name, x))
			want := slices.DeleteFunc(slices.Clone(free), func(s string) bool { return s == name })
			if !slices.Equal(less, want) {
				t.Fatal(name, free, less, showExpr(x))
			}
		}
		if !slices.IsSorted(free) || len(slices.Compact(slices.Clone(free))) != len(free) {
			t.Fatal(free)
		}
		if again := freeByHand(x); !slices.Equal(again, free) {
			t.Fatal(free, again, showExpr(x))
		}
	}
}

// freeByHand is another way to find the free variables: each part gives a set, from which what binds around it takes names away.
func freeByHand(x api.Expr) []string {
	found := map[string]bool{}
	add := func(l []string, but ...string) {
		for _, name := range l {
			if !slices.Contains(but, name) {
				found[name] = true
			}
		}
	}
	bound := func(l []api.Decl) []string {
		var names []string
		for _, d := range l {
			if d.Op == api.DBind {
				names = append(names, d.Name)
			}
		}
		return names
	}
	alts := func(l []api.Alt, but ...string) {
		for _, a := range l {
			in := slices.Concat(but, free.Bound(a.Pats), bound(a.Where))
			for _, g := range a.Rhs {
				for _, c := range append(g.If, g.Then) {
					add(freeByHand(c), in...)
				}
			}
			add(freeByHand(api.Expr{Op: api.XLet, Decls: a.Where, Args: []api.Expr{{Op: api.XInt}}}), in...)
		}
	}
	in := append(free.Bound(x.Pats), bound(x.Decls)...)
	for _, a := range x.Args {
		add(freeByHand(a), in...)
	}
	if x.Op == api.XVar {
		found[x.S] = true
	}
	add(x.Fields[:len(x.Fields)*map[bool]int{true: 1}[x.Op == api.XOps]])
	alts(x.Alts)
	for _, d := range x.Decls {
		alts(d.Alts, in...)
	}
	var before []string
	for i, s := range x.Stmts {
		if !s.Let && (len(s.Pat) > 0 || i < len(x.Stmts)-1) {
			add([]string{"bind"}, before...)
		}
		if s.Let {
			before = append(before, bound(s.Decls)...)
			add(freeByHand(api.Expr{Op: api.XLet, Decls: s.Decls, Args: []api.Expr{{Op: api.XInt}}}), before...)
			continue
		}
		add(freeByHand(s.Expr), before...)
		before = append(before, free.Bound(s.Pat)...)
	}
	var l []string
	for name := range found {
		l = append(l, name)
	}
	slices.Sort(l)
	return l
}

// TestOddNames: the same is found if all names are such as no module has.
func TestOddNames(t *testing.T) {
	m := newMaker(6)
	for range rounds / 4 {
		x := api.Expr{Op: api.XLet, Decls: m.Module().Decls, Args: []api.Expr{m.Expr(3)}}
		x.Decls = slices.DeleteFunc(x.Decls, func(d api.Decl) bool { return d.Op < api.DSig })
		odd := copied(x)
		everywhere(reflect.ValueOf(&odd).Elem(), makeOdd)
		free, e := Free(x)
		oddFree, e2 := Free(odd)
		for i, name := range oddFree {
			oddFree[i] = strings.TrimPrefix(name, "'.")
		}
		slices.Sort(oddFree)
		if e != e2 || !slices.Equal(free, oddFree) {
			t.Fatal(e, e2, free, oddFree)
		}
	}
	for range rounds / 4 {
		l := m.Module().Decls
		odd := copied(l)
		everywhere(reflect.ValueOf(&odd).Elem(), makeOdd)
		groups, e := Groups(l)
		oddGroups, e2 := Groups(odd)
		if e != e2 || !slices.EqualFunc(groups, oddGroups, slices.Equal) {
			t.Fatal(e, e2, groups, oddGroups)
		}
	}
}

// makeOdd changes the names that a value has itself.
func makeOdd(v reflect.Value) {
	names := map[string]string{"Expr": "S", "Pat": "S", "Type": "S", "Decl": "Name", "Con": "Name", "Binder": "Name", "Sig": "Name"}
	if field := names[v.Type().Name()]; field != "" {
		if s := v.FieldByName(field); s.String() != "" && s.String() != "->" && s.String() != "~" {
			s.SetString("'." + s.String())
		}
	}
	if v.Type() == reflect.TypeFor[[]string]() {
		for i := range v.Len() {
			v.Index(i).SetString("'." + v.Index(i).String())
		}
	}
}

// TestGroupsAgain holds Groups against what their definition says of all pairs.
func TestGroupsAgain(t *testing.T) {
	r := rand.New(rand.NewSource(4))
	for range rounds {
		var l []api.Decl
		signed := map[string]bool{}
		for i := range r.Intn(9) {
			x := api.Expr{Op: api.XInt}
			for range r.Intn(3) {
				x = applied(x, variable("f"+strconv.Itoa(r.Intn(8))))
			}
			name := "f" + strconv.Itoa(r.Intn(8))
			if len(l) > 0 && l[len(l)-1].Name == name {
				continue
			}
			if i%3 == 2 && r.Intn(2) == 0 {
				signed[name] = true
				l = append(l, api.Decl{Op: api.DSig, Name: name, Type: api.Type{Op: api.YCon, S: "A"}})
				continue
			}
			l = append(l, binds(name, x))
		}
		want := groupsByPairs(l, signed)
		got, e := Groups(l)
		if e != api.OK || !slices.EqualFunc(got, want, slices.Equal) {
			t.Fatal(got, want, e)
		}
	}
}

func groupsByPairs(l []api.Decl, signed map[string]bool) [][]int {
	n := len(l)
	reaches := make([][]bool, n)
	for i, d := range l {
		reaches[i] = make([]bool, n)
		for j, to := range l {
			if d.Op == api.DBind && to.Op == api.DBind && !signed[to.Name] {
				free, _ := Free(d.Alts[0].Rhs[0].Then)
				reaches[i][j] = slices.Contains(free, to.Name)
			}
		}
	}
	for k := range n {
		for i := range n {
			for j := range n {
				reaches[i][j] = reaches[i][j] || reaches[i][k] && reaches[k][j]
			}
		}
	}
	var groups [][]int
	done := make([]bool, n)
	for {
		next := -1
		for i := range n {
			if next >= 0 || done[i] || l[i].Op != api.DBind {
				continue
			}
			ready := true
			for j := range n {
				ready = ready && (!reaches[i][j] || done[j] || reaches[j][i])
			}
			if ready {
				next = i
			}
		}
		if next < 0 {
			return groups
		}
		var members []int
		for j := range n {
			if j == next || reaches[next][j] && reaches[j][next] {
				members = append(members, j)
				done[j] = true
			}
		}
		groups = append(groups, members)
	}
}
