// Package fault: what is wrong in the midst of a call panics there, and is caught ahead of the call's answer.
package fault

import "loggia/api"

// Must panics with e, for Caught to tell, unless ok.
func Must(ok bool, e api.Errno) {
	if !ok {
		panic(e)
	}
}

// Caught does do and tells the error that it panicked with; OK if it came to its end. A panic with anything else is the program's own mistake: it goes on, so that no answer hides it.
func Caught(do func()) (e api.Errno) {
	defer func() {
		switch x := recover().(type) {
		case nil:
		case api.Errno:
			e = x
		default:
			panic(x)
		}
	}()
	do()
	return api.OK
}
