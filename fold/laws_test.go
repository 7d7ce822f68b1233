package fold

import (
	"slices"
	"strings"
	"testing"
)

// someTexts returns texts of all sorts: long ones, folded ones, and ones of nothing that stays.
func someTexts() []string {
	texts := []string{
		"", " ", ".", "\xC3", "\xC3\x9F", "12 MAIN ST", " 12-a  Rue\xC2\xA0St. Jean,", "L\u00F6wenstra\u00DFe 5", "a\xC5", "\x84b",
		strings.Repeat("\xC3\x9F", 1000), strings.Repeat(" a", 1000), strings.Repeat("\xC3", 1001), strings.Repeat(" ", 1000),
	}
	var bytes []byte
	for b := range 256 {
		bytes = append(bytes, byte(b))
	}
	return append(texts, string(bytes))
}

// lawful reports a text that is not folded to a folded text that is no longer.
func lawful(t *testing.T, s string) {
	t.Helper()
	folded := Fold(s)
	if Fold(folded) != folded || !Right(folded) {
		t.Fatalf("Fold(%q) = %q is not folded", s, folded)
	}
	if len(folded) > len(s) {
		t.Fatalf("Fold(%q) = %q is longer", s, folded)
	}
	if words := Words(folded); strings.Join(words, " ") != folded || slices.Contains(words, "") {
		t.Fatalf("Words(%q) = %q", folded, words)
	}
}

func TestP5_4FoldedTexts(t *testing.T) {
	for _, s := range someTexts() {
		lawful(t, s)
	}
	everyText(pieces, 4, func(s string) { lawful(t, s) })
}

func TestP5_4TextsWithABlankBetween(t *testing.T) {
	texts := someTexts()
	everyText(pieces, 2, func(s string) { texts = append(texts, s) })
	for _, a := range texts {
		for _, b := range texts {
			want := Fold(a)
			if want != "" && Fold(b) != "" {
				want += " "
			}
			want += Fold(b)
			if got := Fold(a + " " + b); got != want {
				t.Fatalf("Fold(%q) = %q; want %q", a+" "+b, got, want)
			}
		}
	}
}

func TestP5_4ShortWordsAreOfTheSameRow(t *testing.T) {
	for _, kind := range askedKinds {
		for _, word := range askedWords() {
			if short, ok := Short(kind, word); ok && !slices.Contains(Longs(kind, short), word) {
				t.Errorf("Short(%d, %q) = %q is not of the row", kind, word, short)
			}
		}
	}
}

func TestP5_4WordsOfTheTableAreFolded(t *testing.T) {
	for _, row := range Table() {
		if !Right(row.Long) || !Right(row.Short) || len(Words(row.Long)) != 1 || len(Words(row.Short)) != 1 {
			t.Errorf("the row %v is not of folded words", row)
		}
	}
}
