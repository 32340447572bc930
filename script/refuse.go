package script

import "escrow/api"

// noLine is what panics tell, wherever in a line something stands that isn't a line's.
type noLine struct{}

// require: it goes on only if that holds.
func require(holds bool) {
	if !holds {
		panic(noLine{})
	}
}

// tried does what may come upon something that isn't a line's: ErrScript then.
func tried(do func()) (e api.Errno) {
	defer func() {
		if why := recover(); why != nil {
			e = answerOf(why)
		}
	}()
	do()
	return api.OK
}

// answerOf: what is answered of a panic. One that isn't this package's own goes on.
func answerOf(why any) api.Errno {
	if _, own := why.(noLine); !own {
		panic(why)
	}
	return api.ErrScript
}
