package script

import (
	"slices"

	"escrow/api"
	"escrow/node"
	"escrow/pair"
)

// commandNames: by kind; a move goes by its own kind's name.
func commandNames() []string {
	return []string{
		World:  "world",
		Quiet:  "quiet",
		State:  "state",
		Ledger: "ledger",
		Mark:   "mark",
		Pipe:   "pipe",
		Files:  "files",
		Joined: "joined",
	}
}

func moveNames() []string {
	return []string{
		pair.Step:    "step",
		pair.Join:    "join",
		pair.Cut:     "cut",
		pair.Deliver: "deliver",
		pair.Lose:    "lose",
	}
}

func stepNames() []string {
	return []string{
		node.Offer:      "offer",
		node.Settle:     "settle",
		node.Refuse:     "refuse",
		node.Sign:       "sign",
		node.Close:      "close",
		node.Connect:    "connect",
		node.Disconnect: "disconnect",
		node.Take:       "take",
		node.Checkpoint: "checkpoint",
		node.Arm:        "arm",
		node.Fall:       "fall",
		node.Crash:      "crash",
		node.Open:       "open",
	}
}

func fateNames() []string {
	return []string{
		api.FateLost:    "lost",
		api.FateKept:    "kept",
		api.FateReplace: "replace",
	}
}

// kindOf: the kind that has a name; false: none has.
func kindOf(names []string, name string) (int, bool) {
	kind := slices.Index(names, name)
	// Where a list has no kind there stands an empty name, which is nobody's.
	return kind, kind >= 0 && name != ""
}

// nameOf: the name that a kind must have.
func nameOf(names []string, kind int) string {
	require(0 <= kind && kind < len(names) && names[kind] != "")
	return names[kind]
}
