package lexicon

import (
	"slices"
	"strings"
	"testing"

	"letterbag/api"
	"letterbag/edit"
)

func TestP7_1NumbersOfLimitsAndErrors(t *testing.T) {
	if MaxWords != 1000 || MaxWord != 40 || ErrTwice != 70 {
		t.Errorf("MaxWords, MaxWord, ErrTwice = %d, %d, %d", MaxWords, MaxWord, ErrTwice)
	}
}

func TestP7_1WordsThatAreRight(t *testing.T) {
	lists := wordLists()
	lists["empty"] = []string{}
	lists["as many as there can be"] = numbered(MaxWords)
	lists["one less"] = numbered(MaxWords - 1)
	for name, words := range lists {
		t.Run(name, func(t *testing.T) {
			x := lexiconOf(t, words)
			if x.Len() != len(words) {
				t.Fatalf("Len() = %d; want %d", x.Len(), len(words))
			}
			for number, want := range words {
				if got, is := x.Word(number); got != want || !is {
					t.Errorf("Word(%d) = %q, %t; want %q", number, got, is, want)
				}
				if got, is := x.Find(want); got != number || !is {
					t.Errorf("Find(%q) = %d, %t; want %d", want, got, is, number)
				}
			}
		})
	}
}

func TestP7_1Errors(t *testing.T) {
	longest, long, longer := strings.Repeat("A", MaxWord), strings.Repeat("A", MaxWord+1), strings.Repeat("A", 5000)
	many := numbered(MaxWords + 1)
	for _, c := range []struct {
		what  string
		words []string
		want  api.Errno
	}{
		{"example", []string{"A", ""}, api.ErrArg}, {"example", []string{"A", "B", "A"}, ErrTwice},
		{"empty", []string{""}, api.ErrArg}, {"empty twice", []string{"", ""}, api.ErrArg}, {"empty first", []string{"", "A"}, api.ErrArg}, {"empty in the middle", []string{"A", "", "B"}, api.ErrArg},
		{"long", []string{long}, api.ErrLong}, {"longer", []string{longer}, api.ErrLong}, {"long twice", []string{long, long}, api.ErrLong}, {"long last", []string{"A", longest, long}, api.ErrLong}, {"long, of zeros", []string{strings.Repeat("\x00", MaxWord+1)}, api.ErrLong},
		{"the same", []string{"A", "A"}, ErrTwice}, {"the same longest", []string{longest, "B", longest}, ErrTwice}, {"the same byte 0", []string{"\x00", "\x00"}, ErrTwice}, {"the same byte 255", []string{"\xFF", "A", "\xFF"}, ErrTwice}, {"the same beginning", []string{"ABC", "AB", "A", "AB"}, ErrTwice}, {"the same longer one", []string{"AB", "ABC", "ABC"}, ErrTwice},
		{"the last as the first", append(numbered(MaxWords-1), numbered(1)...), ErrTwice}, {"the last as the one ahead", append(numbered(MaxWords-1), numbered(MaxWords - 1)[MaxWords-2]), ErrTwice},
		// The first wrong word tells the error, whatever is wrong with those behind it.
		{"empty, long", []string{"", long}, api.ErrArg}, {"long, empty", []string{long, ""}, api.ErrLong}, {"empty, the same", []string{"A", "", "A"}, api.ErrArg}, {"the same, empty", []string{"A", "A", ""}, ErrTwice}, {"the same, long", []string{"A", "A", long}, ErrTwice}, {"long, the same", []string{"A", long, "A"}, api.ErrLong}, {"the same, the same", []string{"A", "B", "B", "A"}, ErrTwice}, {"long, empty, the same", []string{"A", "B", long, "", "A"}, api.ErrLong}, {"empty, the same, long", []string{"A", "", "A", long}, api.ErrArg},
		// Too many words come ahead of all that is wrong with them.
		{"too many", many, api.ErrMany}, {"far too many", numbered(2 * MaxWords), api.ErrMany}, {"too many empty", make([]string, MaxWords+1), api.ErrMany}, {"too many, the first empty", append([]string{""}, many[1:]...), api.ErrMany}, {"too many, the first long", append([]string{long}, many[1:]...), api.ErrMany}, {"too many, two the same", append([]string{"A", "A"}, many[2:]...), api.ErrMany},
		{"as many as there can be, all empty", make([]string, MaxWords), api.ErrArg}, {"as many as there can be, the last empty", append(numbered(MaxWords-1), ""), api.ErrArg}, {"as many as there can be, the last long", append(numbered(MaxWords-1), long), api.ErrLong},
	} {
		if x, err := New(c.words); x != nil || err != c.want {
			t.Errorf("New of words, %s: %v, %d; want nil, %d", c.what, x != nil, err, c.want)
		}
	}
}

func TestP7_1WordsAloneAreRight(t *testing.T) {
	for _, text := range allTexts("A\x00\xFF ", 3) {
		_, err := New([]string{text})
		if (err == api.OK) != (text != "") || text == "" && err != api.ErrArg {
			t.Errorf("New of %q: %d", text, err)
		}
	}
	for length := range 2 * MaxWord {
		want := api.OK
		switch {
		case length == 0:
			want = api.ErrArg
		case length > MaxWord:
			want = api.ErrLong
		}
		for _, letter := range []string{"A", "\x00", "\xFF"} {
			if _, err := New([]string{strings.Repeat(letter, length)}); err != want {
				t.Errorf("New of a word of %d bytes: %d; want %d", length, err, want)
			}
		}
	}
}

func TestP7_2NumbersThatAreNot(t *testing.T) {
	for name, words := range wordLists() {
		x := lexiconOf(t, words)
		for _, n := range []int{-1 << 63, -1000, -2, -1, len(words), len(words) + 1, MaxWords, MaxWords + 1, 1 << 32, 1<<63 - 1} {
			if got, is := x.Word(n); got != "" || is {
				t.Errorf("%s: Word(%d) of %d = %q, %t", name, n, len(words), got, is)
			}
		}
	}
}

func TestP7_2Find(t *testing.T) {
	asked := append(allTexts("AB\x00\xFF", 4), "MAIN", "MAI", "MAINE", "MAINES", "main", "ROAD", "ROADS", "R", " ", "  ", strings.Repeat("A", MaxWord-1), strings.Repeat("A", MaxWord), strings.Repeat("A", MaxWord+1), strings.Repeat("A", 5000), strings.Repeat("AB", MaxWord/2), strings.Repeat("AB", MaxWord/2)+"A")
	for name, words := range wordLists() {
		x := lexiconOf(t, words)
		for _, word := range append(asked, textsFor(words)...) {
			want, wanted := slices.Index(words, word), slices.Contains(words, word)
			if got, is := x.Find(word); is != wanted || is && got != want || !is && got != 0 {
				t.Errorf("%s: Find(%.50q) = %d, %t; want %d, %t", name, word, got, is, want, wanted)
			}
		}
	}
}

func TestP7_2Prefix(t *testing.T) {
	for name, words := range wordLists() {
		x := lexiconOf(t, words)
		asked := append(allTexts("AB\x00\xFF", 3), textsFor(words)...)
		for _, word := range words {
			asked = append(asked, word, word[:1], word[:len(word)/2], word[:len(word)-1], word+"A", word+"\x00", word+strings.Repeat("A", 5000))
		}
		for _, p := range asked {
			var want []int
			for number, word := range words {
				if strings.HasPrefix(word, p) {
					want = append(want, number)
				}
			}
			if got := x.Prefix(p); !slices.Equal(got, want) {
				t.Errorf("%s: Prefix(%.50q) = %d; want %d", name, p, got, want)
			}
		}
	}
}

func TestP7_2PrefixOfAsManyAsThereCanBe(t *testing.T) {
	words := numbered(MaxWords)
	x := lexiconOf(t, words)
	all := make([]int, MaxWords)
	for i := range all {
		all[i] = i
	}
	beginning := words[0][:MaxWord-4]
	for _, c := range []struct {
		p    string
		want []int
	}{
		{"", all}, {"W", all}, {beginning, all}, {beginning + "0", all}, {beginning + "05", all[500:600]}, {beginning + "0123", all[123:124]}, {beginning + "1", nil}, {beginning + "01234", nil}, {beginning + "W", nil}, {"0", nil},
	} {
		if got := x.Prefix(c.p); !slices.Equal(got, c.want) {
			t.Errorf("Prefix(%q) = %d; want %d", c.p, got, c.want)
		}
	}
}

func TestP7_2Examples(t *testing.T) {
	x := lexiconOf(t, []string{"MAIN", "MAINE", "MINE", "ROAD"})
	if got := x.Prefix("MA"); !slices.Equal(got, []int{0, 1}) {
		t.Errorf("Prefix(MA) = %d", got)
	}
	if got, is := x.Find("ROAD"); got != 3 || !is {
		t.Errorf("Find(ROAD) = %d, %t", got, is)
	}
}

func TestR8NoObject(t *testing.T) {
	for name, x := range map[string]*Lexicon{"nil": nil, "zero": new(Lexicon)} {
		if x.Len() != 0 {
			t.Errorf("%s: Len() = %d", name, x.Len())
		}
		for _, n := range []int{-1, 0, 1} {
			if word, is := x.Word(n); word != "" || is {
				t.Errorf("%s: Word(%d) = %q, %t", name, n, word, is)
			}
		}
		for _, text := range []string{"", "A", strings.Repeat("A", edit.MaxText+1)} {
			if n, is := x.Find(text); n != 0 || is {
				t.Errorf("%s: Find(%q) = %d, %t", name, text, n, is)
			}
			if numbers := x.Prefix(text); len(numbers) != 0 {
				t.Errorf("%s: Prefix(%q) = %d", name, text, numbers)
			}
			// ErrNil comes ahead of costs that are wrong, and of a text that is too long.
			for _, c := range append(noCosts(), even, edit.Costs{}) {
				for _, most := range []int{-1, 0, 100} {
					if hits, err := x.Near(text, c, most); len(hits) != 0 || err != api.ErrNil {
						t.Errorf("%s: Near(%q, %v, %d) = %v, %d", name, text, c, most, hits, err)
					}
					if hits, err := x.Best(text, c, most); len(hits) != 0 || err != api.ErrNil {
						t.Errorf("%s: Best(%q, %v, %d) = %v, %d", name, text, c, most, hits, err)
					}
				}
			}
		}
	}
}
