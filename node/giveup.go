package node

import "escrow/api"

// givenUp is what a step that may not go on panics with: what Do answers.
type givenUp struct {
	told Told
}

// giveUp: the step goes no further.
func giveUp(e api.Errno, out ...string) {
	panic(givenUp{Told{Err: e, Out: out}})
}

// must: the step goes on only if that was OK.
func must(e api.Errno) {
	if e != api.OK {
		giveUp(e)
	}
}

// require: the step goes on only if that holds.
func require(holds bool, e api.Errno) {
	if !holds {
		giveUp(e)
	}
}

// answerOf: what Do answers of a step that gave up. Any other panic is none of its own, and goes on.
func answerOf(why any) Told {
	g, own := why.(givenUp)
	if !own {
		panic(why)
	}
	return g.told
}
