package lexicon

import (
	"maps"
	"math/rand/v2"
	"slices"
	"strings"
	"testing"

	"letterbag/api"
	"letterbag/edit"
)

// even are the costs that are all 1.
var even = edit.Costs{Insert: 1, Delete: 1, Change: 1, Swap: 1}

// costLists are right costs: even ones, those in which each step is dear or cheap (an exchange also against two changes), and those at the limits.
var costLists = []edit.Costs{
	even, {Insert: 1, Delete: 2, Change: 2, Swap: 1}, {Insert: 2, Delete: 1, Change: 1, Swap: 2}, {Insert: 2, Delete: 2, Change: 1, Swap: 3}, {Insert: 9, Delete: 9, Change: 2, Swap: 3}, {Insert: 9, Delete: 9, Change: 2, Swap: 4}, {Insert: 9, Delete: 9, Change: 2, Swap: 5},
	{Insert: 3, Delete: 7, Change: 4, Swap: 6}, {Insert: 7, Delete: 3, Change: 1000, Swap: 1000}, {Insert: 1000, Delete: 1, Change: 2, Swap: 1}, {Insert: 1, Delete: 1000, Change: 2, Swap: 1}, {Insert: 1000, Delete: 1000, Change: 1000, Swap: 1000}, {Insert: 1000, Delete: 1000, Change: 1000, Swap: 1},
}

// noCosts are costs of which one is not right, or all.
func noCosts() []edit.Costs {
	var list []edit.Costs
	for _, n := range []int{0, -1, -1000, 1001, 1 << 32, 1<<63 - 1, -1 << 63} {
		list = append(list, edit.Costs{Insert: n, Delete: 1, Change: 1, Swap: 1}, edit.Costs{Insert: 1, Delete: n, Change: 1, Swap: 1}, edit.Costs{Insert: 1, Delete: 1, Change: n, Swap: 1}, edit.Costs{Insert: 1000, Delete: 1000, Change: 1000, Swap: n}, edit.Costs{Insert: n, Delete: n, Change: n, Swap: n})
	}
	return list
}

// lexiconOf returns the lexicon of words that are right.
func lexiconOf(t *testing.T, words []string) *Lexicon {
	t.Helper()
	x, err := New(words)
	if x == nil || err != api.OK {
		t.Fatalf("New of %d words %.200q: %v, %d", len(words), words, x, err)
	}
	return x
}

// near returns the hits of a text, of which no error is expected.
func near(t *testing.T, x *Lexicon, s string, c edit.Costs, most int) []Hit {
	t.Helper()
	hits, err := x.Near(s, c, most)
	if err != api.OK {
		t.Fatalf("Near(%q, %v, %d): %d", s, c, most, err)
	}
	return hits
}

// measured returns the hits of a text for any limit, by the distances to all words, one by one.
func measured(t *testing.T, words []string, s string, c edit.Costs) []Hit {
	t.Helper()
	var hits []Hit
	for number, word := range words {
		cost, err := edit.Distance(s, word, c)
		if err != api.OK {
			t.Fatalf("Distance(%q, %q, %v): %d", s, word, c, err)
		}
		// Each hit comes behind those that cost as much, as they have lesser numbers, and ahead of those that cost more.
		at := 0
		for at < len(hits) && hits[at].Cost <= cost {
			at++
		}
		hits = slices.Insert(hits, at, Hit{number, cost})
	}
	return hits
}

// upTo returns the hits that cost no more than a limit.
func upTo(hits []Hit, most int) []Hit {
	return slices.DeleteFunc(slices.Clone(hits), func(hit Hit) bool { return hit.Cost > most })
}

// cheapest returns the hits that cost as much as the first one.
func cheapest(hits []Hit) []Hit {
	count := 0
	for count < len(hits) && hits[count].Cost == hits[0].Cost {
		count++
	}
	return hits[:count]
}

// limits are limits around the costs of hits, in increasing order: below 0, 0, at some costs (the least and the greatest ones among them) and beside them, and great ones.
func limits(hits []Hit) []int {
	list := []int{-1 << 63, -1, 0, 1 << 32, 1<<63 - 1}
	for i, hit := range hits {
		if i < 2 || i == len(hits)/2 || i == len(hits)-1 {
			list = append(list, hit.Cost-1, hit.Cost, hit.Cost+1)
		}
	}
	slices.Sort(list)
	return slices.Compact(list)
}

// allTexts returns all texts of some letters, of up to a number of bytes, the shorter ones first.
func allTexts(letters string, most int) []string {
	list := []string{""}
	for from := 0; most > 0; most-- {
		upTo := len(list)
		for _, text := range list[from:upTo] {
			for i := range len(letters) {
				list = append(list, text+letters[i:i+1])
			}
		}
		from = upTo
	}
	return list
}

// drawnText returns a text of a length, of some letters.
func drawnText(r *rand.Rand, length int, letters string) string {
	text := make([]byte, length)
	for i := range text {
		text[i] = letters[r.IntN(len(letters))]
	}
	return string(text)
}

// drawnWords returns different words of up to a length, of some letters.
func drawnWords(r *rand.Rand, count, length int, letters string) []string {
	var words []string
	for len(words) < count {
		if word := drawnText(r, 1+r.IntN(length), letters); !slices.Contains(words, word) {
			words = append(words, word)
		}
	}
	return words
}

// numbered returns as many different words as are asked for, each of MaxWord bytes that differ at the end.
func numbered(count int) []string {
	words := make([]string, count)
	for i := range words {
		words[i] = strings.Repeat("W", MaxWord-4) + string([]byte{byte('0' + i/1000), byte('0' + i/100%10), byte('0' + i/10%10), byte('0' + i%10)})
	}
	return words
}

// wordLists are lists of right words of all sorts, the same ones at each call.
func wordLists() map[string][]string {
	r := rand.New(rand.NewPCG(7, 40))
	everyByte := make([]string, 256)
	for b := range everyByte {
		everyByte[b] = string([]byte{byte(b)})
	}
	backwards := allTexts("AB", 4)[1:]
	slices.Reverse(backwards)
	return map[string][]string{
		"none":            nil,
		"one":             {"MAIN"},
		"one byte":        {"\x00"},
		"example":         {"MAIN", "MAINE", "MINE", "ROAD"},
		"beginnings":      {"ABCDE", "A", "ABC", "ABCD", "AB", "B", "BC", "ABD", "ABDE"},
		"blank ends":      {"A", "A ", " A", " ", "  ", "a", "A\x00", "\x00A"},
		"bytes":           {"\x00", "\xFF", "\x00\x00", "\xFF\xFF", "\x00\xFF", "\xFF\x00", "\x80", "\xC3\xA4", "\xC3", "\xA4"},
		"every byte":      everyByte,
		"all short":       allTexts("AB", 4)[1:],
		"backwards":       backwards,
		"longest":         {strings.Repeat("A", MaxWord), strings.Repeat("A", MaxWord-1), strings.Repeat("A", MaxWord-1) + "B", strings.Repeat("AB", MaxWord/2), strings.Repeat("BA", MaxWord/2), "B" + strings.Repeat("A", MaxWord-1), strings.Repeat("B", MaxWord)},
		"drawn of two":    drawnWords(r, 30, 9, "AB"),
		"drawn of bytes":  drawnWords(r, 30, 6, "\x00\x01\xFE\xFF"),
		"drawn of many":   drawnWords(r, 25, MaxWord, "ABCDEFGHIJKLMNOPQRSTUVWXYZ -0"),
		"drawn and alike": drawnWords(r, 40, 5, "ABC"),
	}
}

// textsFor are texts to ask for: of 0 and of 60 bytes, some of the words and what is nearly one of them, and texts of other words.
func textsFor(words []string) []string {
	r := rand.New(rand.NewPCG(60, 7))
	texts := []string{"", "A", "B", "X", "AB", "BA", "CA", "MANI", "MAINE", "MAINS", "\x00", "\xFF\x00", strings.Repeat("A", edit.MaxText), strings.Repeat("BA", edit.MaxText/2), drawnText(r, edit.MaxText, "ABC\x00")}
	for range min(len(words), 6) {
		word := words[r.IntN(len(words))]
		at := r.IntN(len(word))
		texts = append(texts, word, word+"A", word[1:], word[:at]+word[at+1:], word[:at]+"B"+word[at:], word[:at]+"C"+word[at+1:], word[at:]+word[:at])
		if at > 0 {
			texts = append(texts, word[:at-1]+word[at:at+1]+word[at-1:at]+word[at+1:])
		}
	}
	slices.Sort(texts)
	return slices.Compact(texts)
}

// everyQuestion calls a function with all lists of words, and with texts to ask for, each with some of the costs, and with all hits that these have.
func everyQuestion(t *testing.T, call func(words []string, x *Lexicon, s string, c edit.Costs, all []Hit)) {
	t.Helper()
	lists := wordLists()
	for _, name := range slices.Sorted(maps.Keys(lists)) {
		t.Run(name, func(t *testing.T) {
			words := lists[name]
			x := lexiconOf(t, words)
			for i, s := range textsFor(words) {
				for k := range 2 {
					c := costLists[(i+5*k)%len(costLists)]
					call(words, x, s, c, measured(t, words, s, c))
				}
			}
		})
	}
}
