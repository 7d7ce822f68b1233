package fold

import (
	"slices"
	"strings"
	"testing"
)

// listed has the rows of each kind as the document lists them.
var listed = []string{
	KindPre:    "NORTH N, SOUTH S, EAST E, WEST W, NORTHEAST NE, NORTHWEST NW, SOUTHEAST SE, SOUTHWEST SW",
	KindSuffix: "STREET ST, AVENUE AVE, AVENUE AV, ROAD RD, DRIVE DR, LANE LN, COURT CT, PLACE PL, SQUARE SQ, BOULEVARD BLVD, TERRACE TER, HIGHWAY HWY, CRESCENT CRES, WAY WAY, STRASSE STR, PLATZ PL, WEG WEG, ALLEE AL",
	KindUnit:   "APARTMENT APT, SUITE STE, FLOOR FL, ROOM RM, FLAT FL, UNIT UNIT",
	KindBox:    "BOX BOX, POSTBOX PB, POSTFACH PF",
	KindName:   "SAINT ST, SAINTE STE, MOUNT MT, FORT FT, DOCTOR DR",
}

// askedKinds are all kinds, 0, and numbers that are no kinds.
var askedKinds = []uint8{0, KindPre, KindSuffix, KindUnit, KindBox, KindName, 6, 7, 8, 9, 18, 128, 254, 255}

// everyKind calls a function with all numbers that can be asked for as a kind.
func everyKind(call func(kind uint8)) {
	for kind := range 256 {
		call(uint8(kind))
	}
}

// listedRows returns the rows of a kind, or of all kinds for 0.
func listedRows(kind uint8) []Row {
	var rows []Row
	for k, texts := range listed {
		if kind != 0 && int(kind) != k || texts == "" {
			continue
		}
		for text := range strings.SplitSeq(texts, ", ") {
			long, short, _ := strings.Cut(text, " ")
			rows = append(rows, Row{uint8(k), long, short})
		}
	}
	return rows
}

// askedWords are all words of the table, words that are nearly there, and the empty word.
func askedWords() []string {
	words := []string{"", " ", "X", "MAIN", "STREETS", "STREE", "street", "st", "St", " ST", "ST ", "ST.", "STREET ST", "\x00", "\xC3", "0", "1"}
	for _, row := range listedRows(0) {
		words = append(words, row.Long, row.Short)
	}
	slices.Sort(words)
	return slices.Compact(words)
}

// longsOf returns the long words of a kind that a word is of, by the document's definition.
func longsOf(kind uint8, word string) []string {
	var longs []string
	for _, row := range listedRows(kind) {
		if (word == row.Long || word == row.Short) && !slices.Contains(longs, row.Long) {
			longs = append(longs, row.Long)
		}
	}
	return longs
}

// haveCommon reports whether two lists have a word in common.
func haveCommon(a, b []string) bool {
	for _, word := range a {
		if slices.Contains(b, word) {
			return true
		}
	}
	return false
}

func TestP5_2NumbersOfKinds(t *testing.T) {
	if got := []uint8{KindPre, KindSuffix, KindUnit, KindBox, KindName}; !slices.Equal(got, []uint8{1, 2, 3, 4, 5}) {
		t.Errorf("the kinds are %d", got)
	}
}

func TestP5_2Table(t *testing.T) {
	want := listedRows(0)
	if len(want) != 40 {
		t.Fatalf("%d rows are listed", len(want))
	}
	if got := Table(); !slices.Equal(got, want) {
		t.Errorf("Table() = %v; want %v", got, want)
	}
}

func TestP5_2Longs(t *testing.T) {
	for _, c := range []struct {
		kind uint8
		word string
		want []string
	}{
		{0, "ST", []string{"STREET", "SAINT"}},
		{KindName, "ST", []string{"SAINT"}},
		{KindSuffix, "ST", []string{"STREET"}},
		{KindUnit, "ST", nil},
		{KindSuffix, "AVENUE", []string{"AVENUE"}},
		{0, "AVENUE", []string{"AVENUE"}},
		{KindSuffix, "AV", []string{"AVENUE"}},
		{KindSuffix, "PL", []string{"PLACE", "PLATZ"}},
		{0, "PL", []string{"PLACE", "PLATZ"}},
		{0, "STE", []string{"SUITE", "SAINTE"}},
		{0, "DR", []string{"DRIVE", "DOCTOR"}},
		{KindUnit, "FL", []string{"FLOOR", "FLAT"}},
		{KindBox, "BOX", []string{"BOX"}},
		{KindPre, "N", []string{"NORTH"}},
		{KindPre, "NORTH", []string{"NORTH"}},
		{0, "", nil},
		{KindPre, "", nil},
		{0, "MAIN", nil},
		{0, "st", nil},
		{6, "ST", nil},
		{255, "ST", nil},
	} {
		if got := Longs(c.kind, c.word); !slices.Equal(got, c.want) {
			t.Errorf("Longs(%d, %q) = %q; want %q", c.kind, c.word, got, c.want)
		}
	}
}

func TestP5_2LongsOfEveryWord(t *testing.T) {
	words := askedWords()
	everyKind(func(kind uint8) {
		for _, word := range words {
			if got, want := Longs(kind, word), longsOf(kind, word); !slices.Equal(got, want) {
				t.Errorf("Longs(%d, %q) = %q; want %q", kind, word, got, want)
			}
		}
	})
}

func TestP5_2Short(t *testing.T) {
	for _, c := range []struct {
		kind uint8
		word string
		want string
		ok   bool
	}{
		{KindSuffix, "AVENUE", "AVE", true},
		{0, "AVENUE", "AVE", true},
		{KindSuffix, "ST", "", false},
		{0, "ST", "", false},
		{KindSuffix, "AV", "", false},
		{KindSuffix, "STREET", "ST", true},
		{KindSuffix, "SAINT", "", false},
		{KindName, "SAINT", "ST", true},
		{0, "SAINT", "ST", true},
		{KindSuffix, "WAY", "WAY", true},
		{KindPre, "WAY", "", false},
		{KindBox, "POSTFACH", "PF", true},
		{0, "", "", false},
		{KindName, "", "", false},
		{0, "MAIN", "", false},
		{6, "STREET", "", false},
		{255, "STREET", "", false},
	} {
		if got, ok := Short(c.kind, c.word); got != c.want || ok != c.ok {
			t.Errorf("Short(%d, %q) = %q, %t; want %q, %t", c.kind, c.word, got, ok, c.want, c.ok)
		}
	}
}

func TestP5_2ShortOfEveryWord(t *testing.T) {
	words := askedWords()
	everyKind(func(kind uint8) {
		for _, word := range words {
			want, wanted := "", false
			for _, row := range slices.Backward(listedRows(kind)) {
				if row.Long == word {
					want, wanted = row.Short, true
				}
			}
			if got, ok := Short(kind, word); got != want || ok != wanted {
				t.Errorf("Short(%d, %q) = %q, %t; want %q, %t", kind, word, got, ok, want, wanted)
			}
		}
	})
}

// TestP5_2ResultsAreNotShared changes what the functions return, and the room behind it.
func TestP5_2ResultsAreNotShared(t *testing.T) {
	table := Table()
	clear(table)
	table = append(table[:3], Row{KindBox, "ST", "X"}, Row{KindBox, "STREET", "Y"})
	longs := Longs(0, "ST")
	clear(longs)
	longs = append(longs[:1], "X", "Y")
	if got, want := Table(), listedRows(0); !slices.Equal(got, want) {
		t.Errorf("Table() = %v behind %v; want %v", got, table, want)
	}
	if got, want := Longs(0, "ST"), []string{"STREET", "SAINT"}; !slices.Equal(got, want) {
		t.Errorf("Longs(0, ST) = %q behind %q; want %q", got, longs, want)
	}
	if short, ok := Short(0, "STREET"); short != "ST" || !ok {
		t.Errorf("Short(0, STREET) = %q, %t", short, ok)
	}
	if got := Kinds("ST"); got != 36 {
		t.Errorf("Kinds(ST) = %d", got)
	}
	if !Same(0, "ST", "SAINT") || Same(0, "X", "Y") {
		t.Error("Same is changed")
	}
}

func TestP5_3Kinds(t *testing.T) {
	for word, want := range map[string]uint8{
		"ST":     36,
		"STREET": 4,
		"SAINT":  32,
		"STE":    40,
		"DR":     36,
		"AVENUE": 4,
		"PL":     4,
		"FL":     8,
		"N":      2,
		"NORTH":  2,
		"BOX":    16,
		"UNIT":   8,
		"X":      0,
		"":       0,
		"st":     0,
	} {
		if got := Kinds(word); got != want {
			t.Errorf("Kinds(%q) = %d; want %d", word, got, want)
		}
	}
}

func TestP5_3KindsOfEveryWord(t *testing.T) {
	for _, word := range askedWords() {
		var want uint8
		for k := KindPre; k <= KindName; k++ {
			if len(longsOf(k, word)) > 0 {
				want += 1 << k
			}
		}
		if got := Kinds(word); got != want {
			t.Errorf("Kinds(%q) = %d; want %d", word, got, want)
		}
	}
}

func TestP5_3Same(t *testing.T) {
	for _, c := range []struct {
		kind uint8
		a, b string
		want bool
	}{
		{KindSuffix, "PLATZ", "PLACE", false},
		{KindSuffix, "PL", "PLACE", true},
		{KindSuffix, "PL", "PLATZ", true},
		{0, "ST", "SAINT", true},
		{KindName, "ST", "SAINT", true},
		{KindSuffix, "ST", "SAINT", false},
		{0, "STREET", "SAINT", false},
		{KindSuffix, "AVE", "AV", true},
		{KindSuffix, "AVENUE", "AV", true},
		{KindUnit, "FLOOR", "FLAT", false},
		{KindUnit, "FL", "FLAT", true},
		{0, "FL", "FT", false},
		{KindPre, "N", "NORTH", true},
		{KindBox, "N", "NORTH", false},
		{0, "", "", true},
		{255, "", "", true},
		{0, "", "X", false},
		{0, "X", "", false},
		{0, "X", "Y", false},
		{KindPre, "X", "X", true},
		{6, "MAIN", "MAIN", true},
		{255, "ST", "ST", true},
		{6, "ST", "STREET", false},
		{255, "ST", "STREET", false},
		{0, "st", "ST", false},
		{0, "\x00", "\x00", true},
	} {
		if got := Same(c.kind, c.a, c.b); got != c.want {
			t.Errorf("Same(%d, %q, %q) = %t", c.kind, c.a, c.b, got)
		}
	}
}

func TestP5_3SameOfEveryWords(t *testing.T) {
	words := askedWords()
	for _, kind := range askedKinds {
		longs := map[string][]string{}
		for _, word := range words {
			longs[word] = longsOf(kind, word)
		}
		for _, a := range words {
			for _, b := range words {
				if got, want := Same(kind, a, b), a == b || haveCommon(longs[a], longs[b]); got != want {
					t.Fatalf("Same(%d, %q, %q) = %t", kind, a, b, got)
				}
			}
		}
	}
}
