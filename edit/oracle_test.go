package edit

import (
	"cmp"
	"math/rand/v2"
	"slices"
	"strings"
)

// even are the costs that are all 1.
var even = Costs{1, 1, 1, 1}

// costLists are right costs: even ones, those in which one step is dear or cheap, and those at the limits.
var costLists = []Costs{
	even,
	{1, 1, 3, 1}, {2, 2, 3, 9}, {1, 1, 2, 2}, {1, 1, 1, 3}, {3, 3, 1, 1}, {1, 1, 3, 5}, {7, 1, 4, 6}, {1, 7, 4, 6}, {5, 3, 2, 4}, {5, 3, 2, 5}, {2, 3, 5, 7}, {10, 10, 10, 1},
	{MaxCost, 1, 1, 1}, {1, MaxCost, 1, 1}, {1, 1, MaxCost, 1}, {1, 1, 1, MaxCost}, {MaxCost, MaxCost, 1, MaxCost}, {MaxCost, MaxCost, MaxCost, MaxCost}, {999, 500, MaxCost, 998},
}

// noCosts are costs of which one is not right.
func noCosts() []Costs {
	var list []Costs
	for _, n := range []int{0, -1, -MaxCost, MaxCost + 1, 2 * MaxCost, 1 << 32, 1<<32 + 1, 1<<63 - 1, -1 << 63} {
		list = append(list, Costs{n, 1, 1, 1}, Costs{1, n, 1, 1}, Costs{1, 1, n, 1}, Costs{1, 1, 1, n}, Costs{n, n, n, n}, Costs{n, -n, 1, 1}, Costs{MaxCost, MaxCost, MaxCost, n})
	}
	return append(list, Costs{})
}

// words calls a function with all texts of up to a number of the letters.
func words(letters string, most int, call func(s string)) {
	var grow func(s string)
	grow = func(s string) {
		call(s)
		for i := 0; i < len(letters) && len(s) < most; i++ {
			grow(s + letters[i:i+1])
		}
	}
	grow("")
}

// allWords returns all texts of up to a number of the letters.
func allWords(letters string, most int) []string {
	var list []string
	words(letters, most, func(s string) { list = append(list, s) })
	return list
}

// done returns what a step writes, and what it leaves of a text, as the document's table says it; false if it is not like in the table.
func done(op Op, left string) (written, rest string, ok bool) {
	switch {
	case op.Kind == 1 && op.Byte == 0 && len(left) >= 1:
		return left[:1], left[1:], true
	case op.Kind == 2 && len(left) >= 1 && left[0] != op.Byte:
		return string([]byte{op.Byte}), left[1:], true
	case op.Kind == 3 && op.Byte == 0 && len(left) >= 2 && left[0] != left[1]:
		return string([]byte{left[1], left[0]}), left[2:], true
	case op.Kind == 4 && op.Byte == 0 && len(left) >= 1:
		return "", left[1:], true
	case op.Kind == 5:
		return string([]byte{op.Byte}), left, true
	}
	return "", "", false
}

// turned returns what a script makes of a text, step by step; false if it turns it into none.
func turned(s string, script []Op) (string, bool) {
	text := ""
	for _, op := range script {
		written, rest, ok := done(op, s)
		if !ok {
			return "", false
		}
		text, s = text+written, rest
	}
	if s != "" {
		return "", false
	}
	return text, true
}

// added returns the sum of what the steps of a script cost.
func added(script []Op, c Costs) int {
	sum := 0
	for _, op := range script {
		sum += []int{0, 0, c.Change, c.Swap, c.Delete, c.Insert}[op.Kind]
	}
	return sum
}

// everyOp returns the steps of all Kinds, also of two that there are not, with Bytes of some letters, and with 0.
func everyOp(letters string) []Op {
	var ops []Op
	for kind := range uint8(7) {
		for _, b := range []byte(letters + "\x00") {
			if op := (Op{kind, b}); !slices.Contains(ops, op) {
				ops = append(ops, op)
			}
		}
	}
	return ops
}

// everyScript returns all scripts of the steps that turn a into b.
func everyScript(a, b string, ops []Op) [][]Op {
	var scripts [][]Op
	var grow func(script []Op, left, aim string)
	grow = func(script []Op, left, aim string) {
		if left == "" && aim == "" {
			scripts = append(scripts, slices.Clone(script))
		}
		for _, op := range ops {
			if written, rest, ok := done(op, left); ok && strings.HasPrefix(aim, written) {
				grow(append(script, op), rest, aim[len(written):])
			}
		}
	}
	grow(nil, a, b)
	return scripts
}

// firstOf returns, of the scripts with the least cost, the first one, step by step by their Kinds, and its cost.
func firstOf(scripts [][]Op, c Costs) ([]Op, int) {
	best := slices.MinFunc(scripts, func(x, y []Op) int {
		if order := cmp.Compare(added(x, c), added(y, c)); order != 0 {
			return order
		}
		return slices.CompareFunc(x, y, func(p, q Op) int { return cmp.Compare(p.Kind, q.Kind) })
	})
	return best, added(best, c)
}

// counted returns the distance of two texts of any length, by the distances of the texts in front of their last bytes.
func counted(a, b string, c Costs) int {
	table := make([][]int, len(a)+1)
	for i := range table {
		table[i] = make([]int, len(b)+1)
		for j := range table[i] {
			ways := []int{}
			if i == 0 && j == 0 {
				ways = append(ways, 0)
			}
			if i > 0 {
				ways = append(ways, table[i-1][j]+c.Delete)
			}
			if j > 0 {
				ways = append(ways, table[i][j-1]+c.Insert)
			}
			if i > 0 && j > 0 && a[i-1] == b[j-1] {
				ways = append(ways, table[i-1][j-1])
			} else if i > 0 && j > 0 {
				ways = append(ways, table[i-1][j-1]+c.Change)
			}
			if i > 1 && j > 1 && a[i-1] != a[i-2] && a[i-1] == b[j-2] && a[i-2] == b[j-1] {
				ways = append(ways, table[i-2][j-2]+c.Swap)
			}
			table[i][j] = slices.Min(ways)
		}
	}
	return table[len(a)][len(b)]
}

// pair is two texts.
type pair struct{ a, b string }

// drawnText returns a text of a length, of some letters.
func drawnText(r *rand.Rand, length int, letters string) string {
	text := make([]byte, length)
	for i := range text {
		text[i] = letters[r.IntN(len(letters))]
	}
	return string(text)
}

// altered returns a text with some bytes exchanged, put in, taken out or changed, cut to MaxText bytes.
func altered(r *rand.Rand, s string, letters string) string {
	text := []byte(s)
	for range 1 + r.IntN(8) {
		i := r.IntN(len(text) + 1)
		switch {
		case r.IntN(4) == 0:
			text = slices.Insert(text, i, letters[r.IntN(len(letters))])
		case i+1 < len(text) && r.IntN(2) == 0:
			text[i], text[i+1] = text[i+1], text[i]
		case i < len(text) && r.IntN(2) == 0:
			text = slices.Delete(text, i, i+1)
		case i < len(text):
			text[i] = letters[r.IntN(len(letters))]
		}
	}
	return string(text[:min(len(text), MaxText)])
}

// pairs are texts of all sorts and lengths, the same ones at each call: two that have little in common, and two of which one was made from the other.
func pairs() []pair {
	r := rand.New(rand.NewPCG(6, 60))
	list := []pair{
		{"", ""}, {"", "A"}, {"A", ""}, {"A", "A"}, {"A", "B"}, {"AB", "BA"}, {"CA", "ABC"}, {"ABC", "CA"}, {"MAIN", "MINE"}, {"AAAA", "AAA"}, {"AABB", "ABAB"}, {"\x00", "\xFF"}, {"\x00\xFF", "\xFF\x00"},
		{strings.Repeat("A", MaxText), strings.Repeat("B", MaxText)}, {strings.Repeat("AB", MaxText/2), strings.Repeat("BA", MaxText/2)}, {strings.Repeat("ABC", MaxText/3), strings.Repeat("CAB", MaxText/3)},
		{"", strings.Repeat("A", MaxText)}, {strings.Repeat("A", MaxText), ""}, {"A", strings.Repeat("A", MaxText)}, {strings.Repeat("A", MaxText), strings.Repeat("A", MaxText-1) + "B"},
	}
	for _, letters := range []string{"AB", "ABC", "\x00\x01\xFE\xFF", "ABCDEFGHIJKLMNOPQRSTUVWXYZ -0"} {
		for _, length := range []int{1, 5, 9, 20, 33, MaxText - 1, MaxText} {
			a := drawnText(r, length, letters)
			list = append(list, pair{a, drawnText(r, length, letters)}, pair{a, drawnText(r, MaxText-length, letters)}, pair{a, altered(r, a, letters)}, pair{altered(r, a, letters), a}, pair{a, a})
		}
	}
	return list
}
