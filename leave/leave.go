// Package leave lets errors leave by a panic, for the layers that find them deep inside a walk.
package leave

import "damask/api"

// failure is what a panic carries when there is an error.
type failure struct{ e api.Errno }

// With ends the innermost Tried with an error.
func With(e api.Errno) { panic(failure{e}) }

// Must returns the result of a call, or leaves with its error.
func Must[T any](result T, e api.Errno) T {
	if e != api.OK {
		With(e)
	}
	return result
}

// Tried returns what a function makes, or the error with which it leaves.
func Tried[T any](part func() T) (result T, e api.Errno) {
	defer func() {
		if p := recover(); p != nil {
			var none T
			result, e = none, errorOf(p)
		}
	}()
	return part(), api.OK
}

// errorOf takes any other panic for an argument that is not valid, since no layer may panic.
func errorOf(p any) api.Errno {
	switch f := p.(type) {
	case failure:
		return f.e
	default:
		return api.ErrArg
	}
}
