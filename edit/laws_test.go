package edit

import (
	"slices"
	"testing"

	"letterbag/api"
)

// lawPairs returns the texts with which laws are checked: all short ones of two letters with one another, and longer ones.
func lawPairs() []pair {
	list := pairs()
	texts := append(allWords("AB", 3), "CA", "AC", "ABC", "\x00", "\xFF\x00")
	for _, a := range texts {
		for _, b := range texts {
			list = append(list, pair{a, b})
		}
	}
	return list
}

// lawfully calls a function with texts and costs, and their distance.
func lawfully(t *testing.T, call func(p pair, c Costs, distance int)) {
	t.Helper()
	for _, p := range lawPairs() {
		for _, c := range costLists {
			call(p, c, far(t, p.a, p.b, c))
		}
	}
}

// far returns the distance from a to b.
func far(t *testing.T, a, b string, c Costs) int {
	t.Helper()
	distance, err := Distance(a, b, c)
	if err != api.OK {
		t.Fatalf("Distance(%q, %q, %v): %d", a, b, c, err)
	}
	return distance
}

func backwards(s string) string {
	text := []byte(s)
	slices.Reverse(text)
	return string(text)
}

func TestP6_6EqualTexts(t *testing.T) {
	lawfully(t, func(p pair, c Costs, distance int) {
		if (distance == 0) != (p.a == p.b) || distance < 0 {
			t.Fatalf("the distance from %q to %q with %v is %d", p.a, p.b, c, distance)
		}
		if of := far(t, p.a, p.a, c); of != 0 {
			t.Fatalf("the distance from %q to itself with %v is %d", p.a, c, of)
		}
	})
}

func TestP6_6ExchangedAndBackwards(t *testing.T) {
	lawfully(t, func(p pair, c Costs, distance int) {
		exchanged := Costs{Insert: c.Delete, Delete: c.Insert, Change: c.Change, Swap: c.Swap}
		if back := far(t, p.b, p.a, exchanged); back != distance {
			t.Fatalf("the distance from %q to %q with %v is %d, and back with %v %d", p.a, p.b, c, distance, exchanged, back)
		}
		if back := far(t, backwards(p.a), backwards(p.b), c); back != distance {
			t.Fatalf("the distance from %q to %q with %v is %d, and backwards %d", p.a, p.b, c, distance, back)
		}
	})
}

func TestP6_6AtMostAllBytes(t *testing.T) {
	lawfully(t, func(p pair, c Costs, distance int) {
		if distance > len(p.a)*c.Delete+len(p.b)*c.Insert {
			t.Fatalf("the distance from %q to %q with %v is %d", p.a, p.b, c, distance)
		}
	})
}

func TestP6_6AByteBehindBothTexts(t *testing.T) {
	lawfully(t, func(p pair, c Costs, distance int) {
		if len(p.a) == MaxText || len(p.b) == MaxText {
			return
		}
		for _, behind := range []string{"A", "B", "C", "\x00", "\xFF"} {
			if of := far(t, p.a+behind, p.b+behind, c); of > distance {
				t.Fatalf("the distance from %q to %q with %v is %d, and with %q behind both %d", p.a, p.b, c, distance, behind, of)
			}
		}
	})
}

// dearer returns costs, each of which costs more, and how many steps of a script cost more by it.
func dearer(c Costs, more int, path []Op) ([]Costs, []int) {
	counts := make([]int, 6)
	for _, op := range path {
		counts[op.Kind]++
	}
	var list []Costs
	var steps []int
	for i, other := range []Costs{
		{c.Insert + more, c.Delete, c.Change, c.Swap}, {c.Insert, c.Delete + more, c.Change, c.Swap}, {c.Insert, c.Delete, c.Change + more, c.Swap}, {c.Insert, c.Delete, c.Change, c.Swap + more},
	} {
		if Right(other) {
			list, steps = append(list, other), append(steps, counts[[]uint8{OpInsert, OpDelete, OpChange, OpSwap}[i]])
		}
	}
	return list, steps
}

func TestP6_6GreaterCosts(t *testing.T) {
	lawfully(t, func(p pair, c Costs, distance int) {
		path, _, _ := Path(p.a, p.b, c)
		for _, more := range []int{1, 2, 500} {
			costs, steps := dearer(c, more, path)
			for i, other := range costs {
				if of := far(t, p.a, p.b, other); of < distance || of > distance+steps[i]*more {
					t.Fatalf("the distance from %q to %q with %v is %d, and with %v %d", p.a, p.b, c, distance, other, of)
				}
			}
		}
	})
}

func TestP6_6PathsLeadThere(t *testing.T) {
	lawfully(t, func(p pair, c Costs, distance int) {
		path, cost, err := Path(p.a, p.b, c)
		if cost != distance || err != api.OK || len(path) > MaxOps {
			t.Fatalf("Path(%q, %q, %v) has %d steps, %d, %d; the distance is %d", p.a, p.b, c, len(path), cost, err, distance)
		}
		if got, err := Apply(p.a, path); got != p.b || err != api.OK {
			t.Fatalf("Apply(%q, %v) = %q, %d; want %q", p.a, path, got, err, p.b)
		}
		if got, err := Cost(path, c); got != distance || err != api.OK {
			t.Fatalf("Cost(%v, %v) = %d, %d; want %d", path, c, got, err, distance)
		}
	})
}

func TestP6_6NoMetric(t *testing.T) {
	direct, first, second := far(t, "CA", "ABC", even), far(t, "CA", "AC", even), far(t, "AC", "ABC", even)
	if direct != 3 || first != 1 || second != 1 {
		t.Errorf("the distances are %d, %d and %d", direct, first, second)
	}
}
