package lexicon

import (
	"math/rand/v2"
	"slices"
	"strconv"
	"strings"
	"testing"

	"letterbag/api"
	"letterbag/edit"
)

func TestP7_4FirstOnesOfAGreaterLimit(t *testing.T) {
	everyQuestion(t, func(words []string, x *Lexicon, s string, c edit.Costs, all []Hit) {
		var less []Hit
		last := -1 << 63
		for _, most := range limits(all) {
			hits := near(t, x, s, c, most)
			if len(hits) < len(less) || !slices.Equal(hits[:len(less)], less) || len(hits) > len(less) && hits[len(less)].Cost <= last {
				t.Fatalf("Near(%q, %v) of %q: for %d %v, but for %d %v", s, c, words, last, less, most, hits)
			}
			less, last = hits, most
		}
	})
}

func TestP7_4LimitZero(t *testing.T) {
	for name, words := range wordLists() {
		x := lexiconOf(t, words)
		for _, s := range textsFor(words) {
			for _, c := range costLists {
				var want []Hit
				if number, is := x.Find(s); is {
					want = []Hit{{number, 0}}
				}
				if got := near(t, x, s, c, 0); !slices.Equal(got, want) {
					t.Fatalf("%s: Near(%q, %v, 0) = %v; want %v", name, s, c, got, want)
				}
			}
		}
	}
}

// wordsOf returns the words of hits, each with its cost, in alphabetical order.
func wordsOf(t *testing.T, x *Lexicon, hits []Hit) []string {
	t.Helper()
	var list []string
	for _, hit := range hits {
		word, is := x.Word(hit.Word)
		if !is || hit.Cost < 0 {
			t.Fatalf("%v is no hit of %d words", hit, x.Len())
		}
		list = append(list, word+" at "+strconv.Itoa(hit.Cost))
	}
	slices.Sort(list)
	return list
}

func TestP7_4AnotherOrderOfTheWords(t *testing.T) {
	r := rand.New(rand.NewPCG(4, 7))
	everyQuestion(t, func(words []string, x *Lexicon, s string, c edit.Costs, all []Hit) {
		other := slices.Clone(words)
		r.Shuffle(len(other), func(i, j int) { other[i], other[j] = other[j], other[i] })
		y := lexiconOf(t, other)
		list := limits(all)
		for _, most := range []int{0, list[r.IntN(len(list))], list[len(list)-1]} {
			if got, want := wordsOf(t, y, near(t, y, s, c, most)), wordsOf(t, x, near(t, x, s, c, most)); !slices.Equal(got, want) {
				t.Fatalf("Near(%q, %v, %d) of %q: %q, and of %q: %q", s, c, most, other, got, words, want)
			}
		}
		if got, want := len(y.Prefix(s)), len(x.Prefix(s)); got != want {
			t.Fatalf("Prefix(%q) of %q has %d words, and of %q %d", s, other, got, words, want)
		}
	})
}

func TestP7_4AWordMore(t *testing.T) {
	words := []string{"MAIN", "MAINE", "MINE", "ROAD", "MA", "A", "AB", "BA", "MAINS"}
	x := lexiconOf(t, words)
	for _, word := range []string{"M", "MAINES", "X", "MAI", "ROADS", "\x00", "\xFF", strings.Repeat("M", MaxWord), "AIN", "AMIN"} {
		for at := range len(words) + 1 {
			y := lexiconOf(t, slices.Insert(slices.Clone(words), at, word))
			for _, s := range append(textsFor(words), word, word+"A", word[1:]) {
				c := costLists[(at+len(s))%len(costLists)]
				for _, most := range []int{0, 2 * c.Change, 1<<63 - 1} {
					// The hits of the words that were there, with the numbers that they had.
					var got []Hit
					for _, hit := range near(t, y, s, c, most) {
						if hit.Word > at {
							got = append(got, Hit{hit.Word - 1, hit.Cost})
						} else if hit.Word < at {
							got = append(got, hit)
						}
					}
					if want := near(t, x, s, c, most); !slices.Equal(got, want) {
						t.Fatalf("Near(%q, %v, %d) with %q at %d more: %v; want %v", s, c, most, word, at, got, want)
					}
				}
			}
		}
	}
}

func TestR3WordsThatArePassedInStay(t *testing.T) {
	whole := []string{"MAIN", "MAINE", "ROAD", "spare", "spare"}
	words, kept := whole[:3], slices.Clone(whole)
	x := lexiconOf(t, words)
	if !slices.Equal(whole, kept) {
		t.Fatalf("New made %q of %q", whole, kept)
	}
	// The lexicon does not change with the list from which it was made.
	whole[0], whole[1], whole[3] = "X", "", "Y"
	for number, want := range kept[:3] {
		if got, is := x.Word(number); got != want || !is {
			t.Errorf("Word(%d) = %q, %t; want %q", number, got, is, want)
		}
		if got, is := x.Find(want); got != number || !is {
			t.Errorf("Find(%q) = %d, %t; want %d", want, got, is, number)
		}
	}
	if _, is := x.Find("X"); is || x.Len() != 3 {
		t.Errorf("the lexicon has the word X, or %d words", x.Len())
	}
	if got, want := near(t, x, "MAIN", even, 1), []Hit{{0, 0}, {1, 1}}; !slices.Equal(got, want) {
		t.Errorf("Near(MAIN, 1) = %v; want %v", got, want)
	}
}

// spoil changes all elements of a list, also those of its spare capacity.
func spoil[T any](list []T, with T) {
	list = list[:cap(list)]
	for i := range list {
		list[i] = with
	}
}

func TestR3ResultsThatAreChanged(t *testing.T) {
	words := []string{"MAIN", "MAINE", "MINE", "ROAD", "MANE"}
	x := lexiconOf(t, words)
	for range 3 {
		numbers, hits := x.Prefix("M"), near(t, x, "MAIN", even, 2)
		best, err := x.Best("MAINS", even, 2)
		if !slices.Equal(numbers, []int{0, 1, 2, 4}) || !slices.Equal(hits, []Hit{{0, 0}, {1, 1}, {2, 2}, {4, 2}}) || !slices.Equal(best, []Hit{{0, 1}, {1, 1}}) || err != api.OK {
			t.Fatalf("Prefix, Near, Best = %d, %v, %v, %d", numbers, hits, best, err)
		}
		spoil(numbers, -7)
		if !slices.Equal(hits, []Hit{{0, 0}, {1, 1}, {2, 2}, {4, 2}}) || !slices.Equal(best, []Hit{{0, 1}, {1, 1}}) {
			t.Fatalf("Near and Best share memory with Prefix: %v, %v", hits, best)
		}
		spoil(hits, Hit{-7, -7})
		if !slices.Equal(best, []Hit{{0, 1}, {1, 1}}) {
			t.Fatalf("Best shares memory with Near: %v", best)
		}
		spoil(best, Hit{-7, -7})
	}
	for number, want := range words {
		if got, is := x.Word(number); got != want || !is {
			t.Errorf("Word(%d) = %q, %t; want %q", number, got, is, want)
		}
	}
}

// No answer depends on what was asked before, nor on another lexicon, nor on the order in which a map is gone through.
func TestR4TheSameAnswersAgain(t *testing.T) {
	words := allTexts("ABC", 3)[1:]
	x, y := lexiconOf(t, words), lexiconOf(t, []string{"A", "X"})
	numbers, hits := x.Prefix(""), near(t, x, "AB", even, 2)
	for range 50 {
		near(t, y, "X", even, 9)
		if _, err := x.Near("AB", edit.Costs{}, 9); err != api.ErrArg {
			t.Fatalf("Near without costs: %d", err)
		}
		if got := x.Prefix(""); !slices.Equal(got, numbers) {
			t.Fatalf("Prefix() = %d; want %d", got, numbers)
		}
		if got := near(t, x, "AB", even, 2); !slices.Equal(got, hits) {
			t.Fatalf("Near(AB, 2) = %v; want %v", got, hits)
		}
	}
	if y.Len() != 2 || x.Len() != len(words) {
		t.Errorf("the lexicons have %d and %d words", y.Len(), x.Len())
	}
}
