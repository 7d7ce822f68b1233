package lexicon

import (
	"math"
	"slices"
	"strings"
	"testing"

	"letterbag/api"
	"letterbag/edit"
)

func TestP7_3Examples(t *testing.T) {
	x := lexiconOf(t, []string{"MAIN", "MAINE", "MINE", "ROAD"})
	for _, c := range []struct {
		s    string
		most int
		want []Hit
	}{
		{"MAINE", 1, []Hit{{1, 0}, {0, 1}, {2, 1}}}, {"MANI", 1, []Hit{{0, 1}}}, {"X", 0, nil},
		{"MAINE", 0, []Hit{{1, 0}}}, {"MAINE", -1, nil}, {"MAINE", math.MinInt, nil}, {"X", 3, nil}, {"X", 4, []Hit{{0, 4}, {2, 4}, {3, 4}}}, {"", 4, []Hit{{0, 4}, {2, 4}, {3, 4}}}, {"", 5, []Hit{{0, 4}, {2, 4}, {3, 4}, {1, 5}}},
	} {
		if got, err := x.Near(c.s, even, c.most); !slices.Equal(got, c.want) || err != api.OK {
			t.Errorf("Near(%q, %d) = %v, %d; want %v", c.s, c.most, got, err, c.want)
		}
	}
	if got, err := x.Best("MAINS", even, 2); !slices.Equal(got, []Hit{{0, 1}, {1, 1}}) || err != api.OK {
		t.Errorf("Best(MAINS, 2) = %v, %d", got, err)
	}
}

// The distance is that from the text to the word, so that what the text lacks costs Insert, and what it has beyond the word costs Delete.
func TestP7_3FromTheTextToTheWord(t *testing.T) {
	x := lexiconOf(t, []string{"AB", "ABCD", "BA", "AX"})
	c := edit.Costs{Insert: 3, Delete: 5, Change: 7, Swap: 2}
	if got, want := near(t, x, "ABC", c, 100), []Hit{{1, 3}, {0, 5}, {2, 7}, {3, 12}}; !slices.Equal(got, want) {
		t.Errorf("Near(ABC) = %v; want %v", got, want)
	}
}

func TestP7_3ExchangesCheapAndDear(t *testing.T) {
	x := lexiconOf(t, []string{"AB"})
	for _, c := range []struct {
		costs edit.Costs
		want  int
	}{
		{edit.Costs{Insert: 9, Delete: 9, Change: 2, Swap: 1}, 1}, {edit.Costs{Insert: 9, Delete: 9, Change: 2, Swap: 3}, 3}, {edit.Costs{Insert: 9, Delete: 9, Change: 2, Swap: 4}, 4}, {edit.Costs{Insert: 9, Delete: 9, Change: 2, Swap: 5}, 4}, {edit.Costs{Insert: 9, Delete: 9, Change: 2, Swap: 1000}, 4}, {edit.Costs{Insert: 1, Delete: 1, Change: 2, Swap: 1000}, 2}, {edit.Costs{Insert: 1000, Delete: 1000, Change: 1000, Swap: 1000}, 1000}, {edit.Costs{Insert: 1000, Delete: 1000, Change: 1000, Swap: 1}, 1},
	} {
		for most := c.want - 2; most < c.want+3; most++ {
			var want []Hit
			if most >= c.want {
				want = []Hit{{0, c.want}}
			}
			if got := near(t, x, "BA", c.costs, most); !slices.Equal(got, want) {
				t.Errorf("Near(BA, %v, %d) = %v; want %v", c.costs, most, got, want)
			}
		}
	}
}

func TestP7_3Hits(t *testing.T) {
	everyQuestion(t, func(words []string, x *Lexicon, s string, c edit.Costs, all []Hit) {
		for _, most := range limits(all) {
			want := upTo(all, most)
			if got, err := x.Near(s, c, most); !slices.Equal(got, want) || err != api.OK {
				t.Fatalf("Near(%q, %v, %d) of %q = %v, %d; want %v", s, c, most, words, got, err, want)
			}
			want = cheapest(want)
			if got, err := x.Best(s, c, most); !slices.Equal(got, want) || err != api.OK {
				t.Fatalf("Best(%q, %v, %d) of %q = %v, %d; want %v", s, c, most, words, got, err, want)
			}
		}
	})
}

func TestP7_3HitsOfShortTexts(t *testing.T) {
	words := allTexts("AB", 3)[1:]
	x := lexiconOf(t, words)
	for _, s := range allTexts("ABC", 3) {
		for _, c := range costLists {
			all := measured(t, words, s, c)
			for _, most := range limits(all) {
				if got, want := near(t, x, s, c, most), upTo(all, most); !slices.Equal(got, want) {
					t.Fatalf("Near(%q, %v, %d) = %v; want %v", s, c, most, got, want)
				}
			}
		}
	}
}

func TestP7_3AsManyWordsAsThereCanBe(t *testing.T) {
	words := numbered(MaxWords)
	x := lexiconOf(t, words)
	all := make([]Hit, MaxWords)
	for i := range all {
		all[i] = Hit{i, MaxWord * 1000}
	}
	if got := near(t, x, "", costLists[11], MaxWord*1000); !slices.Equal(got, all) {
		t.Errorf("Near of an empty text: %v", got)
	}
	if got := near(t, x, "", costLists[11], MaxWord*1000-1); len(got) != 0 {
		t.Errorf("Near of an empty text, at a limit too low: %v", got)
	}
	for _, s := range []string{words[0], words[567] + "0", strings.Repeat("W", edit.MaxText)} {
		all := measured(t, words, s, even)
		for _, most := range []int{0, 2, math.MaxInt} {
			want := upTo(all, most)
			if got := near(t, x, s, even, most); !slices.Equal(got, want) {
				t.Errorf("Near(%q, %d) = %v; want %v", s, most, got, want)
			}
			if got, err := x.Best(s, even, most); !slices.Equal(got, cheapest(want)) || err != api.OK {
				t.Errorf("Best(%q, %d) = %v, %d; want %v", s, most, got, err, cheapest(want))
			}
		}
	}
}

func TestP7_3BestOfOneAndOfSeveral(t *testing.T) {
	x := lexiconOf(t, []string{"DDDD", "AC", "AB", "BB", "CB", "DB"})
	for _, c := range []struct {
		s    string
		most int
		want []Hit
	}{
		{"AB", 2, []Hit{{2, 0}}}, {"AB", 0, []Hit{{2, 0}}}, {"AB", -1, nil}, {"XB", 1, []Hit{{2, 1}, {3, 1}, {4, 1}, {5, 1}}}, {"XB", 0, nil}, {"XB", math.MaxInt, []Hit{{2, 1}, {3, 1}, {4, 1}, {5, 1}}}, {"AX", 5, []Hit{{1, 1}, {2, 1}}}, {"DDDDX", 1, []Hit{{0, 1}}}, {"DDDDX", 0, nil},
	} {
		if got, err := x.Best(c.s, even, c.most); !slices.Equal(got, c.want) || err != api.OK {
			t.Errorf("Best(%q, %d) = %v, %d; want %v", c.s, c.most, got, err, c.want)
		}
	}
}

func TestP7_3Errors(t *testing.T) {
	fine, long, longer := strings.Repeat("A", edit.MaxText), strings.Repeat("A", edit.MaxText+1), strings.Repeat("A", 5000)
	type question struct {
		s    string
		c    edit.Costs
		want api.Errno
	}
	var list []question
	for _, s := range []string{"", "A", fine, long, longer} {
		for _, c := range append(noCosts(), edit.Costs{}) {
			list = append(list, question{s, c, api.ErrArg})
		}
		for _, c := range costLists {
			want := api.OK
			if len(s) > 60 {
				want = api.ErrLong
			}
			list = append(list, question{s, c, want})
		}
	}
	for name, words := range map[string][]string{"none": nil, "one": {"A"}, "several": {"A", strings.Repeat("A", MaxWord), "B"}} {
		x := lexiconOf(t, words)
		for _, q := range list {
			for _, most := range []int{math.MinInt, -1, 0, 1, math.MaxInt} {
				if hits, err := x.Near(q.s, q.c, most); err != q.want || err != api.OK && len(hits) != 0 {
					t.Errorf("%s: Near of %d bytes, %v, %d: %v, %d; want %d", name, len(q.s), q.c, most, hits, err, q.want)
				}
				if hits, err := x.Best(q.s, q.c, most); err != q.want || err != api.OK && len(hits) != 0 {
					t.Errorf("%s: Best of %d bytes, %v, %d: %v, %d; want %d", name, len(q.s), q.c, most, hits, err, q.want)
				}
			}
		}
	}
}

func TestP7_3HitsThatAreNotWanted(t *testing.T) {
	x := lexiconOf(t, []string{"X", "A", "B", "C"})
	for count := range 4 {
		var got []Hit
		for hit := range x.hits("A", even, 1) {
			got = append(got, hit)
			if len(got) > count {
				break
			}
		}
		if want := []Hit{{0, 1}, {1, 0}, {2, 1}, {3, 1}}[:count+1]; !slices.Equal(got, want) {
			t.Errorf("the first %d hits are %v; want %v", count+1, got, want)
		}
	}
}
