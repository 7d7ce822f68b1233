package edit

import (
	"slices"
	"strings"
	"testing"

	"letterbag/api"
)

// script returns the steps of a text: the first letters of their kinds (of Swap the X), each behind C and I followed by its Byte.
func script(text string) []Op {
	var ops []Op
	for i := 0; i < len(text); i++ {
		op := Op{Kind: uint8(strings.IndexByte(".KCXDI", text[i]))}
		if op.Kind == OpChange || op.Kind == OpInsert {
			i++
			op.Byte = text[i]
		}
		ops = append(ops, op)
	}
	return ops
}

func TestP6_3Path(t *testing.T) {
	for _, x := range []struct {
		a, b string
		c    Costs
		path string
		cost int
	}{
		{"ROAD", "RAOD", even, "KXK", 1}, {"MAIN", "MAINE", even, "KKKKIE", 1}, {"AB", "", even, "DD", 2}, {"CA", "ABC", even, "CACBIC", 3}, {"A", "B", Costs{1, 1, 3, 1}, "DIB", 2},
		{"", "", even, "", 0}, {"", "AB", Costs{4, 1, 1, 1}, "IAIB", 8}, {"MAIN", "MAIN", even, "KKKK", 0}, {"A", "B", even, "CB", 1}, {"A", "A", Costs{1, 1, 1000, 1}, "K", 0},
		// A Keep comes as early as it can, even where another step is as cheap.
		{"AA", "A", even, "KD", 1}, {"A", "AA", even, "KIA", 1}, {"AAA", "A", even, "KDD", 2}, {"ABA", "A", even, "KDD", 2}, {"BA", "A", even, "DK", 1}, {"A", "BA", even, "IBK", 1},
		// A Change comes ahead of a Swap, a Delete and an Insert that are as cheap, but does not make the script dearer.
		{"AB", "BA", Costs{1, 1, 1, 2}, "CBCA", 2}, {"AB", "BA", Costs{1, 1, 2, 2}, "X", 2}, {"AB", "BA", Costs{1, 1, 2, 3}, "DKIA", 2}, {"AB", "BA", Costs{1, 1, 1, 1}, "X", 1}, {"A", "B", Costs{1, 1, 2, 1}, "CB", 2},
		{"AB", "C", even, "CCD", 2}, {"A", "BC", even, "CBIC", 2}, {"ABC", "BCD", even, "DKKID", 2}, {"ABC", "BCD", Costs{2, 2, 1, 1}, "CBCCCD", 3},
		// A Swap comes ahead of a Delete and an Insert.
		{"ABA", "BA", even, "DKK", 1}, {"ABC", "BA", even, "XD", 2}, {"AB", "BAC", even, "XIC", 2},
		// A Delete comes ahead of an Insert.
		{"AB", "CD", Costs{1, 1, 5, 5}, "DDICID", 4}, {"AXB", "AYB", Costs{1, 1, 3, 1}, "KDIYK", 2},
		// Any bytes.
		{"\x00", "\xFF", even, "C\xFF", 1}, {"\xFF", "\x00", even, "C\x00", 1}, {"", "\x00\xFF", even, "I\x00I\xFF", 2}, {"\x00\xFF", "\xFF\x00", even, "X", 1}, {"\x00\x00", "\x00", even, "KD", 1},
		// The longest path of all: as many steps as a script can have.
		{strings.Repeat("A", MaxText), strings.Repeat("B", MaxText), Costs{1, 1, 1000, 1000}, strings.Repeat("D", MaxText) + strings.Repeat("IB", MaxText), MaxOps},
		{strings.Repeat("AB", MaxText/2), strings.Repeat("BA", MaxText/2), Costs{1000, 1000, 1000, 1}, strings.Repeat("X", MaxText/2), MaxText / 2},
	} {
		want := script(x.path)
		if got, cost, err := Path(x.a, x.b, x.c); !slices.Equal(got, want) || cost != x.cost || err != api.OK {
			t.Errorf("Path(%q, %q, %v) = %v, %d, %d; want %v, %d", x.a, x.b, x.c, got, cost, err, want, x.cost)
		}
	}
}

// checkScripts compares what the functions return for two texts with all scripts that turn the one into the other.
func checkScripts(t *testing.T, a, b string, ops []Op) {
	t.Helper()
	scripts := everyScript(a, b, ops)
	for _, c := range costLists {
		want, cost := firstOf(scripts, c)
		if got, err := Distance(a, b, c); got != cost || err != api.OK {
			t.Fatalf("Distance(%q, %q, %v) = %d, %d; want %d", a, b, c, got, err, cost)
		}
		if got, of, err := Path(a, b, c); !slices.Equal(got, want) || of != cost || err != api.OK {
			t.Fatalf("Path(%q, %q, %v) = %v, %d, %d; want %v, %d", a, b, c, got, of, err, want, cost)
		}
		for most := cost - 1; most <= cost+1; most++ {
			got, is, err := Within(a, b, c, most)
			if is != (most >= cost) || is && got != cost || !is && got != 0 || err != api.OK {
				t.Fatalf("Within(%q, %q, %v, %d) = %d, %t, %d; the distance is %d", a, b, c, most, got, is, err, cost)
			}
		}
	}
	for _, l := range scripts {
		if got, err := Apply(a, l); got != b || err != api.OK {
			t.Fatalf("Apply(%q, %v) = %q, %d; want %q", a, l, got, err, b)
		}
	}
}

// TestP6_3EveryScript tries all scripts of short texts: by them it checks the distances, the paths and the texts that scripts write.
func TestP6_3EveryScript(t *testing.T) {
	for _, x := range []struct {
		letters string
		most    int
	}{{"AB", 4}, {"ABC", 3}, {"\x00A\xFF", 3}} {
		ops := everyOp(x.letters)
		texts := allWords(x.letters, x.most)
		for _, a := range texts {
			for _, b := range texts {
				checkScripts(t, a, b, ops)
			}
		}
	}
}

// TestP6_3EveryScriptOfSomeTexts tries all scripts of longer texts: with bytes exchanged side by side, and with bytes that would be treated twice.
func TestP6_3EveryScriptOfSomeTexts(t *testing.T) {
	for _, p := range []pair{
		{"CA", "ABC"}, {"ABC", "CA"}, {"ABCD", "BADC"}, {"ABCDE", "BCDEA"}, {"EABCD", "ABCDE"}, {"ABABA", "BABAB"}, {"AABB", "BBAA"}, {"AABBA", "ABABA"}, {"MAIN", "MINE"}, {"ROAD", "RAOD"}, {"ABC", "CDAB"}, {"", "ABCDE"}, {"ABCDE", ""}, {"AAAAA", "AAA"}, {"ABCBA", "BCBAB"},
	} {
		checkScripts(t, p.a, p.b, everyOp("ABCDEIMNOR"))
	}
}

// TestP6_3PathsOfLongTexts checks at each step of a path that it begins a script with the distance as its cost, and that no step of an earlier Kind does.
func TestP6_3PathsOfLongTexts(t *testing.T) {
	for i, p := range pairs() {
		c := costLists[i%len(costLists)]
		path, cost, err := Path(p.a, p.b, c)
		if want := counted(p.a, p.b, c); cost != want || err != api.OK {
			t.Fatalf("Path(%q, %q, %v) costs %d, %d; want %d", p.a, p.b, c, cost, err, want)
		}
		left, aim := p.a, p.b
		for at, op := range path {
			first := Op{}
			for _, other := range everyOp(aim[:min(1, len(aim))]) {
				written, rest, ok := done(other, left)
				if ok && first.Kind == 0 && strings.HasPrefix(aim, written) && added([]Op{other}, c)+counted(rest, aim[len(written):], c) == counted(left, aim, c) {
					first = other
				}
			}
			if op != first {
				t.Fatalf("step %d of Path(%q, %q, %v) is %v; want %v", at, p.a, p.b, c, op, first)
			}
			written, rest, _ := done(op, left)
			left, aim = rest, aim[len(written):]
		}
		if left != "" || aim != "" {
			t.Fatalf("Path(%q, %q, %v) leaves %q and %q", p.a, p.b, c, left, aim)
		}
	}
}

func TestP6_3Errors(t *testing.T) {
	for _, x := range errorCases() {
		if got, cost, err := Path(x.a, x.b, x.c); err != x.err || err != api.OK && (len(got) != 0 || cost != 0) {
			t.Errorf("Path of %d and %d bytes with %v = %v, %d, %d; want the error %d", len(x.a), len(x.b), x.c, got, cost, err, x.err)
		}
	}
}

func TestP6_3PathsAreNotShared(t *testing.T) {
	a, b := "ROADSIDE", "RAODXSIE"
	want, cost, _ := Path(a, b, even)
	other, _, _ := Path(a, b, even)
	kept := slices.Clone(want)
	for i := range other {
		other[i] = Op{9, 9}
	}
	other = append(other[:1], Op{8, 8}, Op{7, 7})
	if !slices.Equal(want, kept) {
		t.Errorf("a path became %v when %v was changed", want, other)
	}
	if got, of, err := Path(a, b, even); !slices.Equal(got, kept) || of != cost || err != api.OK {
		t.Errorf("Path(%q, %q) = %v, %d, %d; want %v, %d", a, b, got, of, err, kept, cost)
	}
	if got, err := Distance(a, b, even); got != cost || err != api.OK {
		t.Errorf("Distance(%q, %q) = %d, %d; want %d", a, b, got, err, cost)
	}
}
