// Package stop ends computations with errors: what is thrown anywhere in a computation is what the exported function of a layer returns.
package stop

import (
	"errors"

	"metewand/api"
)

// A stop is thrown, and says which error the computation ends with.
type stop struct{ cause api.Errno }

func (s stop) Error() string { return s.cause.Error() }

func (s stop) Unwrap() error { return s.cause }

// Throw ends the computation with an error.
func Throw(cause api.Errno) { panic(stop{cause}) }

// Demand ends the computation with an error unless the condition holds.
func Demand(holds bool, otherwise api.Errno) {
	if !holds {
		Throw(otherwise)
	}
}

// Pass ends the computation with an error unless there is none.
func Pass(e api.Errno) { Demand(e == api.OK, e) }

// Attempt returns the result of the work, or the error that ended it.
func Attempt[T any](work func() T) (result T, e api.Errno) {
	defer func() {
		if thrown := recover(); thrown != nil {
			e = reason(thrown)
		}
	}()
	return work(), api.OK
}

// reason returns the error that a panic stands for. One that nobody threw would be for want of room.
func reason(thrown any) api.Errno {
	if err, ok := thrown.(error); ok {
		var s stop
		if errors.As(err, &s) {
			return s.cause
		}
	}
	return api.ErrLarge
}
