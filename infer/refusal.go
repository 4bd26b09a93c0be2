package infer

// refusal carries an error out of a deep place, so that the functions in between need not hand it on.
type refusal struct {
	err error
}

func refuse(err error) {
	panic(refusal{err})
}

// refused: the error that a recovered panic carries. What the program did not throw is thrown on: it is no answer.
func refused(thrown any) error {
	if r, ok := thrown.(refusal); ok {
		return r.err
	}
	panic(thrown)
}
