package pair

import "slices"

// pipe: messages that are under way, first the one that was sent first.
type pipe []string

// put: all of them go to the end, in their order.
func (l *pipe) put(out []string) {
	sent := make(chan string)
	go func() {
		for _, b := range out {
			sent <- b
		}
		close(sent)
	}()
	for b := range sent {
		*l = append(*l, b)
	}
}

// takeOff: the first one, which is under way no longer; there is one.
func (l *pipe) takeOff() string {
	first := (*l)[0]
	*l = slices.Delete(*l, 0, 1)
	return first
}
