package edit

// stepKind is what all steps of a kind are like: how many bytes of a text they take, and how many they write; what they cost; what the one with a Byte writes for the bytes that it takes; and whether these bytes may become those that are written.
type stepKind struct {
	takes, writes int
	cost          func(c Costs) int
	does          func(taken string, b uint8) string
	fits          func(taken, written string) bool
}

// stepKinds returns the table of steps, by their Kinds.
func stepKinds() map[uint8]stepKind {
	return map[uint8]stepKind{
		OpKeep: {
			takes: 1, writes: 1,
			cost: func(c Costs) int { return 0 },
			does: func(taken string, b uint8) string { return taken },
			fits: func(taken, written string) bool { return taken == written },
		},
		OpChange: {
			takes: 1, writes: 1,
			cost: func(c Costs) int { return c.Change },
			does: func(taken string, b uint8) string { return string([]byte{b}) },
			fits: func(taken, written string) bool { return taken != written },
		},
		OpSwap: {
			takes: 2, writes: 2,
			cost: func(c Costs) int { return c.Swap },
			does: func(taken string, b uint8) string { return taken[1:] + taken[:1] },
			fits: func(taken, written string) bool {
				return taken[0] == written[1] && taken[1] == written[0] && taken[0] != taken[1]
			},
		},
		OpDelete: {
			takes: 1, writes: 0,
			cost: func(c Costs) int { return c.Delete },
			does: func(taken string, b uint8) string { return "" },
			fits: func(taken, written string) bool { return true },
		},
		OpInsert: {
			takes: 0, writes: 1,
			cost: func(c Costs) int { return c.Insert },
			does: func(taken string, b uint8) string { return string([]byte{b}) },
			fits: func(taken, written string) bool { return true },
		},
	}
}

// opOf returns the step of a kind that writes some bytes.
func opOf(kind uint8, written string) Op {
	if kind == OpChange || kind == OpInsert {
		return Op{kind, written[0]}
	}
	return Op{Kind: kind}
}

// begin returns what a step writes for the first bytes that are left of a text, and the bytes that are left behind it; false if the step is not like in the table.
func begin(op Op, kinds map[uint8]stepKind, left string) (string, string, bool) {
	step, known := kinds[op.Kind]
	if !known || len(left) < step.takes {
		return "", "", false
	}
	taken := left[:step.takes]
	written := step.does(taken, op.Byte)
	return written, left[step.takes:], step.fits(taken, written) && op == opOf(op.Kind, written)
}
