// Package syntax reads modules.
package syntax

import "damask/api"

// Modules returns the modules of a source, or the position of what is wrong in it.
func Modules(source string) ([]api.Module, int, api.Errno) {
	read, at, e := readAll(source, (*reader).modules)
	if e != api.OK {
		return nil, at, e
	}
	var l []api.Module
	for i, p := range read {
		if i == api.MaxModules || Check(p.module) != api.OK {
			return nil, p.at, api.ErrFull
		}
		l = append(l, p.module)
	}
	return l, 0, api.OK
}

// Expr returns the expression that a source is, or the position of what is wrong in it.
func Expr(source string) (api.Expr, int, api.Errno) {
	x, at, e := readAll(source, (*reader).expr)
	if e == api.OK {
		e = CheckExpr(x)
	}
	if e != api.OK {
		return api.Expr{}, at, e
	}
	return x, 0, api.OK
}

// Type returns the type that a source is, or the position of what is wrong in it.
func Type(source string) (api.Type, int, api.Errno) {
	t, at, e := readAll(source, (*reader).typ)
	if e == api.OK {
		e = CheckType(t)
	}
	if e != api.OK {
		return api.Type{}, at, e
	}
	return t, 0, api.OK
}

// Check returns OK if a module is well built and small.
func Check(m api.Module) api.Errno {
	c := checker{}
	return c.verdict(c.module(&m))
}

// CheckExpr returns OK if an expression is well built and small.
func CheckExpr(e api.Expr) api.Errno {
	c := checker{}
	return c.verdict(c.expr(&e, 1))
}

// CheckType returns OK if a type is well built and small.
func CheckType(t api.Type) api.Errno {
	c := checker{}
	return c.verdict(c.typ(&t, 1))
}

// Same reports whether two modules are equal in all fields.
func Same(a, b api.Module) bool { return sameModule(&a, &b) }

// SameExpr reports whether two expressions are equal in all fields.
func SameExpr(a, b api.Expr) bool { return sameExpr(&a, &b) }

// SameType reports whether two types are equal in all fields.
func SameType(a, b api.Type) bool { return sameType(&a, &b) }

// Names returns the names of the variables of a type that nothing in it binds, in the order in which they stand.
func Names(t api.Type) ([]string, api.Errno) {
	if e := CheckType(t); e != api.OK {
		return nil, e
	}
	return freeNames(t), api.OK
}
