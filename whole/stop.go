package whole

import (
	"errors"

	"metewand/api"
)

// A stop ends a computation: it is thrown, and says which error the exported function returns.
type stop struct{ cause api.Errno }

func (s stop) Error() string { return s.cause.Error() }

func (s stop) Unwrap() error { return s.cause }

// throw ends the computation with an error.
func throw(cause api.Errno) { panic(stop{cause}) }

// demand ends the computation with an error unless the condition holds.
func demand(holds bool, otherwise api.Errno) {
	if !holds {
		throw(otherwise)
	}
}

// attempt returns the result of the work, or the error that ended it.
func attempt[T any](work func() T) (result T, e api.Errno) {
	defer func() {
		if thrown := recover(); thrown != nil {
			e = reason(thrown)
		}
	}()
	return work(), api.OK
}

// reason returns the error that a panic stands for. One that nobody threw would be for want of room.
func reason(thrown any) api.Errno {
	if err, ok := thrown.(error); ok {
		var s stop
		if errors.As(err, &s) {
			return s.cause
		}
	}
	return api.ErrLarge
}
