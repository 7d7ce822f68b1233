package edit

import (
	"slices"
	"strings"
	"testing"

	"letterbag/api"
)

func TestP6_4Apply(t *testing.T) {
	full := strings.Repeat("A", MaxText)
	for _, x := range []struct {
		s    string
		l    []Op
		want string
	}{
		{"AB", script("X"), "BA"}, {"ROAD", script("KXK"), "RAOD"}, {"MAIN", script("KKKKIE"), "MAINE"}, {"AB", script("DD"), ""}, {"CA", script("CACBIC"), "ABC"}, {"A", script("DIB"), "B"}, {"A", script("IBD"), "B"},
		{"", nil, ""}, {"", []Op{}, ""}, {"", script("IA"), "A"}, {"A", script("K"), "A"}, {"A", script("D"), ""}, {"A", script("CB"), "B"}, {"A", script("IAK"), "AA"}, {"A", script("KIA"), "AA"}, {"A", script("IADIA"), "AA"},
		// Scripts with more steps than are needed are scripts, too.
		{"AB", script("IADIBD"), "AB"}, {"AB", script("CBCA"), "BA"}, {"AB", script("DDIAIB"), "AB"}, {"ABC", script("KXIA"), "ACBA"}, {"AABB", script("KXK"), "ABAB"},
		// Any bytes: a Byte of 0 is one as any other, where a step has one.
		{"A", []Op{{OpChange, 0}}, "\x00"}, {"", []Op{{OpInsert, 0}}, "\x00"}, {"", []Op{{OpInsert, 255}, {OpInsert, 10}}, "\xFF\n"}, {"\x00", []Op{{OpChange, 255}}, "\xFF"}, {"\x00", script("K"), "\x00"}, {"\x00\xFF", script("X"), "\xFF\x00"}, {"\x00\xFF", script("DK"), "\xFF"},
		// The longest texts and scripts.
		{full, slices.Repeat(script("K"), MaxText), full}, {full, slices.Repeat(script("D"), MaxText), ""}, {full, slices.Repeat(script("CB"), MaxText), strings.Repeat("B", MaxText)},
		{full, slices.Repeat(script("KIB"), MaxText), strings.Repeat("AB", MaxText)}, {full, slices.Repeat(script("DIB"), MaxText), strings.Repeat("B", MaxText)},
		{"", slices.Repeat(script("IX"), MaxOps), strings.Repeat("X", MaxOps)}, {"", slices.Repeat(script("IX"), MaxOps-1), strings.Repeat("X", MaxOps-1)}, {"A", append(slices.Repeat(script("IX"), MaxOps-1), script("K")...), strings.Repeat("X", MaxOps-1) + "A"},
	} {
		if got, err := Apply(x.s, x.l); got != x.want || err != api.OK {
			t.Errorf("Apply(%q, %v) = %q, %d; want %q", x.s, x.l, got, err, x.want)
		}
	}
}

func TestP6_4NoScripts(t *testing.T) {
	for _, x := range []struct {
		s string
		l []Op
	}{
		{"AA", script("X")}, {"AB", script("K")}, {"A", script("CA")},
		// Bytes that are left.
		{"A", nil}, {"AB", script("KIA")}, {"AB", script("D")}, {"ABC", script("X")}, {"ABC", script("CB")}, {"AB", script("IAIB")},
		// Steps behind the end.
		{"", script("K")}, {"", script("D")}, {"", script("X")}, {"", script("CA")}, {"A", script("X")}, {"A", script("KK")}, {"A", script("KD")}, {"A", script("DCA")}, {"AB", script("KX")}, {"AB", script("XK")}, {"AB", script("XD")}, {"ABC", script("XX")}, {"", script("IAK")}, {"", script("IAD")},
		// A change to the same byte, and an exchange of equal bytes.
		{"\x00", []Op{{OpChange, 0}}}, {"\xFF", []Op{{OpChange, 255}}}, {"AB", script("CBCB")}, {"BAA", script("KX")}, {"\x00\x00", script("X")},
		// A Byte where there is none.
		{"A", []Op{{OpKeep, 'A'}}}, {"A", []Op{{OpKeep, 1}}}, {"A", []Op{{OpKeep, 255}}}, {"AB", []Op{{OpSwap, 1}}}, {"AB", []Op{{OpSwap, 'B'}}}, {"AB", []Op{{OpSwap, 'A'}}}, {"A", []Op{{OpDelete, 'A'}}}, {"A", []Op{{OpDelete, 255}}},
		// Kinds that there are not.
		{"A", []Op{{0, 0}}}, {"", []Op{{0, 0}}}, {"", []Op{{0, 'A'}}}, {"A", []Op{{6, 0}}}, {"", []Op{{6, 0}}}, {"", []Op{{6, 'A'}}}, {"A", []Op{{OpKeep, 0}, {0, 0}}}, {"A", []Op{{0, 0}, {OpKeep, 0}}}, {"A", []Op{{OpKeep, 0}, {255, 0}}},
	} {
		if got, err := Apply(x.s, x.l); got != "" || err != ErrScript {
			t.Errorf("Apply(%q, %v) = %q, %d", x.s, x.l, got, err)
		}
	}
}

// TestP6_4EveryShortScript applies all scripts of up to three steps, also of Kinds that there are not, and with Bytes where there are none.
func TestP6_4EveryShortScript(t *testing.T) {
	const letters = "\x00A\xFF"
	ops := everyOp(letters)
	texts := allWords(letters, 3)
	var try func(l []Op)
	try = func(l []Op) {
		for _, s := range texts {
			want, ok := turned(s, l)
			if got, err := Apply(s, l); got != want || (err == api.OK) != ok || !ok && err != ErrScript {
				t.Fatalf("Apply(%q, %v) = %q, %d; want %q, %t", s, l, got, err, want, ok)
			}
		}
		for _, op := range ops {
			if len(l) < 3 {
				try(append(l, op))
			}
		}
	}
	try(nil)
}

// TestP6_4EveryOp applies each step there can be to some texts.
func TestP6_4EveryOp(t *testing.T) {
	for kind := range 256 {
		for b := range 256 {
			for _, s := range []string{"", "\x00", "A", "\xFF", "AB", "BA", "AA", "\x00\xFF"} {
				l := []Op{{uint8(kind), uint8(b)}}
				want, ok := turned(s, l)
				if got, err := Apply(s, l); got != want || (err == api.OK) != ok || !ok && err != ErrScript {
					t.Fatalf("Apply(%q, %v) = %q, %d; want %q, %t", s, l, got, err, want, ok)
				}
			}
		}
	}
}

func TestP6_4Errors(t *testing.T) {
	full, long := strings.Repeat("A", MaxText), strings.Repeat("A", MaxText+1)
	for _, x := range []struct {
		s   string
		l   []Op
		err api.Errno
	}{
		{full, nil, ErrScript}, {full, slices.Repeat(script("K"), MaxText+1), ErrScript}, {full, slices.Repeat(script("K"), MaxOps), ErrScript},
		{long, nil, api.ErrLong}, {long, slices.Repeat(script("K"), MaxText+1), api.ErrLong}, {long, slices.Repeat(script("D"), MaxText+1), api.ErrLong},
		{"", slices.Repeat(script("IX"), MaxOps+1), api.ErrLong}, {full, slices.Repeat(script("KIA"), MaxText+1)[:MaxOps+1], api.ErrLong}, {"", make([]Op, MaxOps), ErrScript},
		// ErrLong comes ahead of ErrScript, wherever that one would be.
		{long, script("CA"), api.ErrLong}, {long, []Op{{0, 0}}, api.ErrLong}, {"", make([]Op, MaxOps+1), api.ErrLong}, {"A", slices.Repeat(script("K"), MaxOps+1), api.ErrLong}, {long, make([]Op, MaxOps+1), api.ErrLong},
		{strings.Repeat("A", 100000), nil, api.ErrLong}, {"", make([]Op, 100000), api.ErrLong},
	} {
		if got, err := Apply(x.s, x.l); got != "" || err != x.err {
			t.Errorf("Apply of %d bytes and %d steps = %q, %d; want %d", len(x.s), len(x.l), got, err, x.err)
		}
	}
}

func TestP6_5Cost(t *testing.T) {
	c := Costs{Insert: 3, Delete: 50, Change: 700, Swap: 9}
	for _, x := range []struct {
		l    []Op
		want int
	}{
		{nil, 0}, {[]Op{}, 0}, {script("K"), 0}, {script("CA"), 700}, {script("X"), 9}, {script("D"), 50}, {script("IA"), 3}, {script("KCAXDIBKIC"), 765}, {script("DDIAIB"), 106},
		// Whether it fits any text does not matter, nor do the Bytes.
		{[]Op{{OpKeep, 7}, {OpSwap, 7}, {OpDelete, 7}}, 59}, {[]Op{{OpChange, 0}, {OpInsert, 0}}, 703},
		{slices.Repeat(script("K"), MaxOps), 0}, {slices.Repeat(script("CA"), MaxOps), MaxOps * 700}, {slices.Repeat(script("IA"), MaxOps-1), (MaxOps - 1) * 3},
	} {
		if got, err := Cost(x.l, c); got != x.want || err != api.OK {
			t.Errorf("Cost(%v) = %d, %d; want %d", x.l, got, err, x.want)
		}
	}
	if got, err := Cost(slices.Repeat(script("X"), MaxOps), Costs{1, 1, 1, MaxCost}); got != MaxOps*MaxCost || err != api.OK {
		t.Errorf("Cost of the dearest script = %d, %d", got, err)
	}
}

// TestP6_5EveryShortScript adds up what all scripts of up to three steps cost.
func TestP6_5EveryShortScript(t *testing.T) {
	ops := everyOp("\x00A")
	var try func(l []Op)
	try = func(l []Op) {
		known := !slices.ContainsFunc(l, func(op Op) bool { return op.Kind < 1 || op.Kind > 5 })
		for _, c := range costLists {
			want, wantErr := 0, ErrScript
			if known {
				want, wantErr = added(l, c), api.OK
			}
			if got, err := Cost(l, c); got != want || err != wantErr {
				t.Fatalf("Cost(%v, %v) = %d, %d; want %d, %d", l, c, got, err, want, wantErr)
			}
		}
		for _, op := range ops {
			if len(l) < 3 {
				try(append(l, op))
			}
		}
	}
	try(nil)
}

func TestP6_5Errors(t *testing.T) {
	for kind := range 256 {
		for _, b := range []uint8{0, 'A', 255} {
			want := api.OK
			if kind < 1 || kind > 5 {
				want = ErrScript
			}
			for _, l := range [][]Op{{{uint8(kind), b}}, {{OpChange, 'A'}, {uint8(kind), b}}, {{uint8(kind), b}, {OpChange, 'A'}}} {
				if got, err := Cost(l, even); err != want || err != api.OK && got != 0 {
					t.Errorf("Cost(%v) = %d, %d; want the error %d", l, got, err, want)
				}
			}
		}
	}
	// The first error of several.
	long, none := slices.Repeat(script("K"), MaxOps+1), make([]Op, MaxOps+1)
	for _, l := range [][]Op{long, none, make([]Op, 100000)} {
		if got, err := Cost(l, even); got != 0 || err != api.ErrLong {
			t.Errorf("Cost of %d steps = %d, %d", len(l), got, err)
		}
	}
	for _, c := range noCosts() {
		for _, l := range [][]Op{nil, script("K"), script("CA"), {{0, 0}}, long, none} {
			if got, err := Cost(l, c); got != 0 || err != api.ErrArg {
				t.Errorf("Cost of %d steps with %v = %d, %d", len(l), c, got, err)
			}
		}
	}
}

// TestR3Unmodified checks that scripts are left as they are, with what lies behind them.
func TestR3Unmodified(t *testing.T) {
	whole := append(script("KXDIZCQ"), Op{9, 9}, Op{8, 8})
	kept := slices.Clone(whole)
	l := whole[:5]
	want, _ := Apply("ABCDE", l)
	for range 2 {
		if got, err := Apply("ABCDE", l); got != want || got != "ACBZQ" || err != api.OK {
			t.Errorf("Apply = %q, %d", got, err)
		}
		if got, err := Cost(l, even); got != 4 || err != api.OK {
			t.Errorf("Cost = %d, %d", got, err)
		}
		if _, err := Apply("ABC", l); err != ErrScript {
			t.Errorf("Apply: %d", err)
		}
	}
	if !slices.Equal(whole, kept) {
		t.Errorf("a script became %v", whole)
	}
	l[0] = Op{OpDelete, 0}
	if got, err := Apply("ABCDE", l); got != "CBZQ" || err != api.OK {
		t.Errorf("Apply of the changed script = %q, %d", got, err)
	}
}
