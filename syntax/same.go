package syntax

import (
	"slices"

	"damask/api"
)

// same reports whether two lists are equal; its items are pointed at, since copies of them would fill the stack where they are nested deeply.
func same[T any](a, b []T, equal func(a, b *T) bool) bool {
	if len(a) != len(b) {
		return false
	}
	for i := range a {
		if !equal(&a[i], &b[i]) {
			return false
		}
	}
	return true
}

func sameModule(a, b *api.Module) bool {
	return a.Name == b.Name && a.All == b.All && slices.Equal(a.Exports, b.Exports) &&
		same(a.Imports, b.Imports, sameImport) && same(a.Decls, b.Decls, sameDecl)
}

func sameImport(a, b *api.Import) bool {
	return a.Module == b.Module && a.All == b.All && slices.Equal(a.Names, b.Names)
}

func sameDecl(a, b *api.Decl) bool {
	return a.Op == b.Op && a.Name == b.Name && a.S == b.S && a.N == b.N && sameType(&a.Type, &b.Type) &&
		same(a.Cons, b.Cons, sameCon) && slices.Equal(a.Deriving, b.Deriving) && same(a.Eqs, b.Eqs, sameEq) &&
		same(a.Vars, b.Vars, sameBinder) && same(a.Context, b.Context, sameType) && same(a.Deps, b.Deps, sameDep) &&
		same(a.Sigs, b.Sigs, sameSig) && same(a.Alts, b.Alts, sameAlt) && same(a.Decls, b.Decls, sameDecl)
}

func sameCon(a, b *api.Con) bool {
	return a.Name == b.Name && sameType(&a.Type, &b.Type) && slices.Equal(a.Fields, b.Fields)
}

func sameEq(a, b *api.Eq) bool { return sameType(&a.Left, &b.Left) && sameType(&a.Right, &b.Right) }

func sameBinder(a, b *api.Binder) bool { return a.Name == b.Name && sameType(&a.Kind, &b.Kind) }

func sameDep(a, b *api.Dep) bool { return slices.Equal(a.From, b.From) && slices.Equal(a.To, b.To) }

func sameSig(a, b *api.Sig) bool { return a.Name == b.Name && sameType(&a.Type, &b.Type) }

func sameAlt(a, b *api.Alt) bool {
	return same(a.Pats, b.Pats, samePat) && same(a.Rhs, b.Rhs, sameGuard) && same(a.Where, b.Where, sameDecl)
}

func sameGuard(a, b *api.Guard) bool {
	return same(a.If, b.If, sameExpr) && sameExpr(&a.Then, &b.Then)
}

func sameExpr(a, b *api.Expr) bool {
	return a.Op == b.Op && a.S == b.S && a.N == b.N && same(a.Args, b.Args, sameExpr) && same(a.Types, b.Types, sameType) &&
		same(a.Pats, b.Pats, samePat) && slices.Equal(a.Fields, b.Fields) && same(a.Decls, b.Decls, sameDecl) &&
		same(a.Alts, b.Alts, sameAlt) && same(a.Stmts, b.Stmts, sameStmt)
}

func sameStmt(a, b *api.Stmt) bool {
	return a.Let == b.Let && same(a.Pat, b.Pat, samePat) && sameExpr(&a.Expr, &b.Expr) && same(a.Decls, b.Decls, sameDecl)
}

func samePat(a, b *api.Pat) bool {
	return a.Op == b.Op && a.S == b.S && a.N == b.N && same(a.Args, b.Args, samePat)
}

func sameType(a, b *api.Type) bool {
	return a.Op == b.Op && a.N == b.N && a.S == b.S && same(a.Args, b.Args, sameType)
}
