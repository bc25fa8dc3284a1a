package leave

import (
	"testing"

	"damask/api"
)

func TestTried(t *testing.T) {
	if r, e := Tried(func() int { return 3 }); r != 3 || e != api.OK {
		t.Error(r, e)
	}
	if r, e := Tried(func() int { With(api.ErrKind); return 3 }); r != 0 || e != api.ErrKind {
		t.Error(r, e)
	}
	if r, e := Tried(func() int { return []int{}[len("a")] }); r != 0 || e != api.ErrArg {
		t.Error(r, e)
	}
}

// TestWithin: what leaves an inner part leaves the outer one only if the outer one says so.
func TestWithin(t *testing.T) {
	inner := func() api.Errno {
		_, e := Tried(func() int { With(api.ErrName); return 1 })
		return e
	}
	if r, e := Tried(inner); r != api.ErrName || e != api.OK {
		t.Error(r, e)
	}
}

func TestMust(t *testing.T) {
	call := func(e api.Errno) (string, api.Errno) { return "result", e }
	if r, e := Tried(func() string { return Must(call(api.OK)) }); r != "result" || e != api.OK {
		t.Error(r, e)
	}
	if r, e := Tried(func() string { return Must(call(api.ErrFull)) }); r != "" || e != api.ErrFull {
		t.Error(r, e)
	}
}
