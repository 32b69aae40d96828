package expr

import "gambrel/api"

// attempt returns what work returns, or the error with which it was left. An error leaves all of the work by a panic, so that its steps need not hand it on.
func attempt[T any](work func() T) (result T, fault api.Errno) {
	defer func() {
		if left := recover(); left != nil {
			fault = left.(api.Errno)
		}
	}()
	return work(), api.OK
}

// demand leaves the work if there is an error.
func demand(e api.Errno) {
	if e != api.OK {
		panic(e)
	}
}

// must returns the result of a call, and leaves the work if it has an error.
func must[T any](result T, e api.Errno) T {
	demand(e)
	return result
}
