package save

import "lanthorn/api"

// fault is what a call gives up with.
type fault struct{ why api.Errno }

// refuse gives up, if something is wrong.
func refuse(wrong bool, why api.Errno) {
	if wrong {
		panic(fault{why})
	}
}

// attempt does something, and tells why it was given up.
func attempt(do func()) (why api.Errno) {
	defer func() {
		switch given := recover().(type) {
		case nil:
		case fault:
			why = given.why
		default: // a mistake of the program's own, which is not to be hidden
			panic(given)
		}
	}()
	do()
	return api.OK
}
