package fold

import (
	"slices"
	"strings"
	"testing"
)

// themselves are the bytes that become themselves.
const themselves = "ABCDEFGHIJKLMNOPQRSTUVWXYZ0123456789-/"

// small are the bytes that become capital letters.
const small = "abcdefghijklmnopqrstuvwxyz"

// tableOfLetters returns what two bytes become, written down as the document lists it: the first byte, all second bytes, the letters.
func tableOfLetters() map[string]string {
	table := map[string]string{}
	for _, row := range []struct{ first, seconds, letters string }{
		{"\xC3", "\x80\x81\x82\x83\x85\xA0\xA1\xA2\xA3\xA5", "A"},
		{"\xC3", "\x84\x86\xA4\xA6", "AE"},
		{"\xC3", "\x87\xA7", "C"},
		{"\xC3", "\x88\x89\x8A\x8B\xA8\xA9\xAA\xAB", "E"},
		{"\xC3", "\x8C\x8D\x8E\x8F\xAC\xAD\xAE\xAF", "I"},
		{"\xC3", "\x90\xB0", "D"},
		{"\xC3", "\x91\xB1", "N"},
		{"\xC3", "\x92\x93\x94\x95\x98\xB2\xB3\xB4\xB5\xB8", "O"},
		{"\xC3", "\x96\xB6", "OE"},
		{"\xC3", "\x99\x9A\x9B\xB9\xBA\xBB", "U"},
		{"\xC3", "\x9C\xBC", "UE"},
		{"\xC3", "\x9D\xBD\xBF", "Y"},
		{"\xC3", "\x9E\xBE", "TH"},
		{"\xC3", "\x9F", "SS"},
		{"\xC5", "\x92\x93", "OE"},
		{"\xC5", "\xA0\xA1", "S"},
		{"\xC5", "\xBD\xBE", "Z"},
	} {
		for i := range len(row.seconds) {
			table[row.first+row.seconds[i:i+1]] = row.letters
		}
	}
	return table
}

// folding returns a function that folds a text step by step, as the document says it: first all bytes, then the blanks.
func folding() func(s string) string {
	table := tableOfLetters()
	return func(s string) string {
		text := ""
		for s != "" {
			length := 1
			if letters, ok := table[s[:min(2, len(s))]]; ok {
				text, length = text+letters, 2
			} else if strings.Contains(themselves, s[:1]) {
				text += s[:1]
			} else if i := strings.Index(small, s[:1]); i >= 0 {
				text += themselves[i : i+1]
			} else {
				text += " "
			}
			s = s[length:]
		}
		for strings.Contains(text, "  ") {
			text = strings.ReplaceAll(text, "  ", " ")
		}
		return strings.TrimSuffix(strings.TrimPrefix(text, " "), " ")
	}
}

// everyText calls a function with all texts of up to a number of the pieces, put together.
func everyText(pieces []string, most int, call func(s string)) {
	var grow func(s string, more int)
	grow = func(s string, more int) {
		call(s)
		for _, piece := range pieces {
			if more > 0 {
				grow(s+piece, more-1)
			}
		}
	}
	grow("", most)
}

// pieces are bytes that become themselves, letters, a blank, or with their neighbours something else.
var pieces = []string{"A", "z", "0", "-", "/", " ", "\x00", "\n", ".", "\xFF", "\x84", "\x92", "\x9F", "\xC3", "\xC5"}

func TestP5_1Fold(t *testing.T) {
	for _, c := range []struct{ s, want string }{
		{" 12-a  Rue\xC2\xA0St. Jean,", "12-A RUE ST JEAN"},
		{"\xC3\x84x\xC3\x9F", "AEXSS"},
		{"\xC3\x97", ""},
		{"\xC3", ""},
		{"", ""},
		{" ", ""},
		{"   ", ""},
		{" \t\r\n.,;:#*'\"_+=\\|\x00\x7F\x80\xFF ", ""},
		{"12 Main St", "12 MAIN ST"},
		{"12 MAIN ST", "12 MAIN ST"},
		{"  12   Main    St  ", "12 MAIN ST"},
		{"\t12\r\nMain,.St\x00", "12 MAIN ST"},
		{" x", "X"},
		{"x ", "X"},
		{"x  y", "X Y"},
		{"12-14/b", "12-14/B"},
		{"-/-", "-/-"},
		{"Z\u00FCrich, L\u00F6wenstra\u00DFe 5", "ZUERICH LOEWENSTRASSE 5"},
		{"C\u00F4te-d\u2019Or", "COTE-D OR"},
		{"\u0152uvre de \u0160kofja \u017Eena", "OEUVRE DE SKOFJA ZENA"},
		{"\u00DE\u00F3r\u00FE\u00D0", "THORTHD"},
		{"1\u00D72\u00F73", "1 2 3"},
		{"\u0141\u00F3d\u017A", "OD"},
	} {
		if got := Fold(c.s); got != c.want {
			t.Errorf("Fold(%q) = %q; want %q", c.s, got, c.want)
		}
	}
}

func TestP5_1FoldOfEveryByte(t *testing.T) {
	for b := range 256 {
		s := string([]byte{byte(b)})
		want := ""
		if strings.Contains(themselves, s) {
			want = s
		} else if i := strings.Index(small, s); i >= 0 {
			want = string(rune('A' + i))
		}
		if got := Fold(s); got != want {
			t.Errorf("Fold(%q) = %q; want %q", s, got, want)
		}
		between := "X" + want + "Y"
		if want == "" {
			between = "X Y"
		}
		if got := Fold("x" + s + "y"); got != between {
			t.Errorf("Fold(%q) = %q; want %q", "x"+s+"y", got, between)
		}
	}
}

func TestP5_1FoldOfEveryTwoLetters(t *testing.T) {
	table := tableOfLetters()
	if len(table) != 68 {
		t.Fatalf("the table of letters has %d rows", len(table))
	}
	for two, letters := range table {
		for _, c := range []struct{ s, want string }{
			{two, letters},
			{two + two, letters + letters},
			{"a" + two + "b", "A" + letters + "B"},
			{" " + two + " ", letters},
			{two + two[:1], letters},
			{two[:1] + two, letters},
			{"a" + two[:1] + two + "b", "A " + letters + "B"},
			{"a" + two + two[1:] + "b", "A" + letters + " B"},
		} {
			if got := Fold(c.s); got != c.want {
				t.Errorf("Fold(%q) = %q; want %q", c.s, got, c.want)
			}
		}
	}
}

func TestP5_1FoldOfEveryTwoBytes(t *testing.T) {
	fold := folding()
	for first := range 256 {
		for second := range 256 {
			two := string([]byte{byte(first), byte(second)})
			for _, s := range []string{two, "1" + two + "2", two + " x"} {
				if got, want := Fold(s), fold(s); got != want {
					t.Fatalf("Fold(%q) = %q; want %q", s, got, want)
				}
			}
		}
	}
}

// TestP5_1FoldOfFirstBytes has first bytes whose second byte is not in the table, or is missing, or is a first byte itself.
func TestP5_1FoldOfFirstBytes(t *testing.T) {
	for _, c := range []struct{ s, want string }{
		{"\xC5", ""},
		{"a\xC3", "A"},
		{"a\xC5", "A"},
		{"\xC3a", "A"},
		{"\xC5\x2F", "/"},
		{"\xC3\xB7", ""},
		{"a\xC3\x97b", "A B"},
		{"a\xC3\xB7b", "A B"},
		{"a\xC3\x7Fb", "A B"},
		{"a\xC3\xC0b", "A B"},
		{"a\xC5\x91b", "A B"},
		{"a\xC5\x94b", "A B"},
		{"a\xC5\x84b", "A B"},
		{"a\xC5\xBFb", "A B"},
		{"a\xC4\x84b", "A B"},
		{"a\xC3\xC5b", "A B"},
		{"a\xC5\xC3b", "A B"},
		{"a\xC3\xC3b", "A B"},
		{"a\xC3\xC5", "A"},
		{"a\xC3\xC5\x92b", "A OEB"},
		{"a\xC5\xC3\x84b", "A AEB"},
		{"a\xC3\xC3\x9Fb", "A SSB"},
		{"\xC5\x92\xC3\x84", "OEAE"},
		{"\xC3\x84\xC5", "AE"},
		{"\xC3 \x84", ""},
	} {
		if got := Fold(c.s); got != c.want {
			t.Errorf("Fold(%q) = %q; want %q", c.s, got, c.want)
		}
	}
}

func TestP5_1FoldOfEveryShortText(t *testing.T) {
	fold := folding()
	everyText(pieces, 4, func(s string) {
		if got, want := Fold(s), fold(s); got != want {
			t.Fatalf("Fold(%q) = %q; want %q", s, got, want)
		}
	})
}

func TestP5_1Right(t *testing.T) {
	for s, want := range map[string]bool{
		"":           true,
		"A":          true,
		"-":          true,
		"12-A/3 RUE": true,
		" ":          false,
		" A":         false,
		"A ":         false,
		"A  B":       false,
		"a":          false,
		"A.":         false,
		"A\tB":       false,
		"A\x00":      false,
		"\xC3\x84":   false,
		"A\xC3":      false,
	} {
		if Right(s) != want {
			t.Errorf("Right(%q) = %t", s, !want)
		}
	}
}

func TestP5_1RightOfEveryShortText(t *testing.T) {
	fold := folding()
	everyText(pieces, 4, func(s string) {
		if Right(s) != (fold(s) == s) {
			t.Fatalf("Right(%q) = %t", s, Right(s))
		}
	})
}

func TestP5_1Words(t *testing.T) {
	for _, c := range []struct {
		s    string
		want []string
	}{
		{"", nil},
		{" ", nil},
		{"    ", nil},
		{"A", []string{"A"}},
		{"12 MAIN ST", []string{"12", "MAIN", "ST"}},
		{"  12   MAIN    ST  ", []string{"12", "MAIN", "ST"}},
		{" A", []string{"A"}},
		{"A ", []string{"A"}},
		{"A A", []string{"A", "A"}},
		{"a,b .", []string{"a,b", "."}},
		{"a\tb\nc\rd\ve\ff\x00g", []string{"a\tb\nc\rd\ve\ff\x00g"}},
		{"\xC2\xA0 \u2003\u0085 \xC3 \xFF\xFE", []string{"\xC2\xA0", "\u2003\u0085", "\xC3", "\xFF\xFE"}},
		{"\xC3 \x84", []string{"\xC3", "\x84"}},
		{"\xE2 \x80 \xF0\x9F ", []string{"\xE2", "\x80", "\xF0\x9F"}},
	} {
		if got := Words(c.s); !slices.Equal(got, c.want) {
			t.Errorf("Words(%q) = %q; want %q", c.s, got, c.want)
		}
	}
}

// TestP5_1WordsOfEveryByte checks that no byte but the blank parts words, and that words are not folded.
func TestP5_1WordsOfEveryByte(t *testing.T) {
	for b := range 256 {
		s := string([]byte{'x', byte(b), 'y'})
		want := []string{s}
		if b == 32 {
			want = []string{"x", "y"}
		}
		if got := Words(s); !slices.Equal(got, want) {
			t.Errorf("Words(%q) = %q; want %q", s, got, want)
		}
	}
}

func TestP5_1WordsOfEveryShortText(t *testing.T) {
	everyText(pieces, 4, func(s string) {
		var want []string
		for part := range strings.SplitSeq(s, " ") {
			if part != "" {
				want = append(want, part)
			}
		}
		if got := Words(s); !slices.Equal(got, want) {
			t.Fatalf("Words(%q) = %q; want %q", s, got, want)
		}
	})
}

func TestP5_1WordsAreNotShared(t *testing.T) {
	const s = "12 MAIN ST"
	want := []string{"12", "MAIN", "ST"}
	words := Words(s)
	clear(words)
	_ = append(words[:1], "X", "Y")
	if got := Words(s); !slices.Equal(got, want) {
		t.Errorf("Words(%q) = %q; want %q", s, got, want)
	}
}
