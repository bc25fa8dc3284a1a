package print

import (
	"strconv"

	"damask/api"
)

// How strongly the text of a pattern holds together, and how strongly it must where it stands.
const (
	anyPat   = iota
	argument // one of several patterns
	joined   // directly behind a sign, with which another sign would be one token
)

func patIn(p api.Pat, place int) string {
	text, strength := patText(p)
	return enclosed(text, strength < place)
}

func patText(p api.Pat) (string, int) {
	switch p.Op {
	case api.PWild:
		return "_", joined
	case api.PInt:
		return strconv.Itoa(p.N), joined
	case api.PAs:
		return p.S + "@" + patIn(p.Args[0], joined), joined
	case api.PBang:
		return "!" + patIn(p.Args[0], joined), argument
	case api.PLazy:
		return "~" + patIn(p.Args[0], joined), argument
	case api.PCon:
		if len(p.Args) > 0 {
			return words(p.S, argumentsText(p.Args)), anyPat
		}
	}
	return p.S, joined
}

func argumentsText(l []api.Pat) string {
	return list(l, " ", func(p api.Pat) string { return patIn(p, argument) })
}

// lambdaText writes the patterns of a function: the first one directly behind its sign.
func lambdaText(l []api.Pat) string {
	return words("\\"+patIn(l[0], joined), argumentsText(l[1:]))
}
