// Package proper tells which types are proper, as chapter 5 says: the layers below package types ask it, too.
package proper

import "damask/api"

const (
	// MaxNumber is the greatest number of a variable.
	MaxNumber = 9999
	maxBytes  = 40 // of the name of a constant
)

// Type reports whether a type is proper.
func Type(t api.Type) bool {
	nodes := 0
	return holds(&t, 1, &nodes)
}

// IsNumber reports whether a number can be that of a variable.
func IsNumber(n int) bool { return n >= 0 && n <= MaxNumber }

// holds stops at the first node that is too many or too deep, so that it goes through large types no further.
func holds(t *api.Type, depth int, nodes *int) bool {
	*nodes++
	if depth > api.MaxDepth || *nodes > api.MaxNodes || !hasForm(t) {
		return false
	}
	for i := range t.Args {
		if !holds(&t.Args[i], depth+1, nodes) {
			return false
		}
	}
	return true
}

func hasForm(t *api.Type) bool {
	switch t.Op {
	case api.YVar, api.YMeta, api.YRigid:
		return IsNumber(t.N) && t.S == "" && len(t.Args) == 0
	case api.YCon:
		return t.N == 0 && t.S != "" && len(t.S) <= maxBytes && len(t.Args) == 0
	case api.YApp, api.YAll, api.YImp:
		return t.N == 0 && t.S == "" && len(t.Args) == 2
	}
	return false
}
