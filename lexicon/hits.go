package lexicon

import (
	"cmp"
	"slices"

	"letterbag/api"
	"letterbag/edit"
)

// check returns the first error of a question for words that are near a text.
func (x *Lexicon) check(s string, c edit.Costs) api.Errno {
	switch {
	case x == nil || x.root == nil:
		return api.ErrNil
	case !edit.Right(c):
		return api.ErrArg
	case len(s) > edit.MaxText:
		return api.ErrLong
	}
	return api.OK
}

// hits yields the words that are near a text, by their numbers. The text and the costs are checked, and no word is too long for edit, so its errors do not occur here.
func (x *Lexicon) hits(s string, c edit.Costs, most int) func(yield func(Hit) bool) {
	return func(yield func(Hit) bool) {
		for number, word := range x.words {
			cost, near, _ := edit.Within(s, word, c, most)
			if near && !yield(Hit{Word: number, Cost: cost}) {
				return
			}
		}
	}
}

// inOrder puts hits in the order of their costs, and equal ones in that of their numbers.
func inOrder(hits []Hit) []Hit {
	slices.SortFunc(hits, func(a, b Hit) int {
		return cmp.Or(cmp.Compare(a.Cost, b.Cost), cmp.Compare(a.Word, b.Word))
	})
	return hits
}
