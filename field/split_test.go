package field

import (
	"math/rand"
	"slices"
	"strings"
	"testing"

	"remontoire/api"
)

// wantSplit asks twice, as nothing is kept, that no field has a comma, and that they are joined by commas again; what is told is in memory of its own.
func wantSplit(t *testing.T, s string, want ...string) {
	t.Helper()
	for range 2 {
		got := Split(s)
		if !slices.Equal(got, want) {
			t.Fatalf("Split of %q: got %q, want %q", s, got, want)
		}
		if joined := strings.Join(got, ","); joined != s {
			t.Fatalf("Split of %q: joined again %q", s, joined)
		}
		for i := range got {
			if strings.Contains(got[i], ",") {
				t.Fatalf("Split of %q: the field %q", s, got[i])
			}
			got[i] = "another one"
		}
	}
}

// byDefinition is the fields of a text, byte by byte.
func byDefinition(s string) []string {
	out := []string{""}
	for i := range len(s) {
		if s[i] == ',' {
			out = append(out, "")
			continue
		}
		out[len(out)-1] += s[i : i+1]
	}
	return out
}

// P9.1
func TestSplitKnown(t *testing.T) {
	wantSplit(t, "A", "A")
	wantSplit(t, "A,B", "A", "B")
	wantSplit(t, "B,A,B,A", "B", "A", "B", "A")
	wantSplit(t, "GPZDA,123519,04,07,2002,00,00", "GPZDA", "123519", "04", "07", "2002", "00", "00")
	wantSplit(t, "GPGLL,4916.45,N,12311.12,W,225444,A", "GPGLL", "4916.45", "N", "12311.12", "W", "225444", "A")
	wantSplit(t, "GPZDA,,,,,00,00", "GPZDA", "", "", "", "", "00", "00")
	wantSplit(t, " A , B ", " A ", " B ")
	wantSplit(t, "A;B.C\tD\nE F", "A;B.C\tD\nE F")
	wantSplit(t, "\xff,\x00,\xc3,\xa4", "\xff", "\x00", "\xc3", "\xa4")
}

// P9.1: of an empty text there is one field, an empty one.
func TestSplitOfNothing(t *testing.T) {
	wantSplit(t, "", "")
	wantSplit(t, "A,B"[3:], "")
}

// P9.1: of commas alone, one empty field more than they are; also ahead of a field and behind it.
func TestSplitOfCommas(t *testing.T) {
	wantSplit(t, ",", "", "")
	wantSplit(t, ",,", "", "", "")
	wantSplit(t, ",A", "", "A")
	wantSplit(t, "A,", "A", "")
	wantSplit(t, ",A,", "", "A", "")
	wantSplit(t, "A,,B", "A", "", "B")
	for n := range 300 {
		wantSplit(t, strings.Repeat(",", n), make([]string, n+1)...)
	}
}

// P9.1: a field of any bytes and of any length is told, also one that is not read.
func TestSplitOfEachByte(t *testing.T) {
	for x := range 256 {
		one := string([]byte{byte(x)})
		if x == ',' {
			continue
		}
		wantSplit(t, one, one)
		wantSplit(t, one+","+one+one, one, one+one)
		wantSplit(t, ","+one+",", "", one, "")
	}
	for _, n := range []int{20, 21, 82, 1000, 1 << 20} {
		long := strings.Repeat("7", n)
		wantSplit(t, long, long)
		wantSplit(t, "A,"+long+",", "A", long, "")
	}
}

// P9.1: all short texts of a few bytes, and drawn ones.
func TestSplitByDefinition(t *testing.T) {
	for _, s := range allTexts(",A;", 8) {
		wantSplit(t, s, byDefinition(s)...)
	}
	r := rand.New(rand.NewSource(5))
	for n := range 400 {
		for _, alphabet := range []string{",AB", ",,,A", ",0123456789.ABCDEFGHIJKL", ",\x00\xff\xc3\xa4"} {
			s := drawnText(r, alphabet, n)
			wantSplit(t, s, byDefinition(s)...)
		}
	}
}

// P9.1, P1: many fields.
func TestSplitOfMany(t *testing.T) {
	got := Split(strings.Repeat("12,", 1<<20))
	if len(got) != 1<<20+1 || got[0] != "12" || got[1<<20-1] != "12" || got[1<<20] != "" {
		t.Errorf("got %d fields", len(got))
	}
}

// P9.4
func TestOneKnown(t *testing.T) {
	wantOne(t, "A", "AV", 0, api.OK)
	wantOne(t, "V", "AV", 1, api.OK)
	wantOne(t, "N", "NS", 0, api.OK)
	wantOne(t, "S", "NS", 1, api.OK)
	wantOne(t, "M", "M", 0, api.OK)
	wantOne(t, "9", "0123456789", 9, api.OK)
	// Of a byte that stands there twice or more the first place.
	wantOne(t, "A", "AA", 0, api.OK)
	wantOne(t, "A", "VAVA", 1, api.OK)
	wantOne(t, "V", "AVAVV", 1, api.OK)
	wantOne(t, "B", strings.Repeat("A", 1000)+"BB", 1000, api.OK)
}

// P9.4
func TestOneForm(t *testing.T) {
	for _, x := range [][2]string{
		{"A", ""}, {"A", "V"}, {"A", "a"}, {"a", "AV"}, {" ", "AV"}, {"\x00", "AV"}, {"\xff", "AV"}, {",", "AV"},
		// Two bytes and more are never one, also where the text stands in the other.
		{"AV", "AV"}, {"AA", "A"}, {"AA", "AA"}, {"A ", "A"}, {" A", "A"}, {"AV", ""}, {"VA", "AV"}, {"AVA", "AVA"}, {"\xc3\xa4", "\xc3\xa4"}, {"01234567890123456789", "01234567890123456789"}, {"AAAAAAAAAAAAAAAAAAAA", "A"},
	} {
		wantOne(t, x[0], x[1], 0, api.ErrForm)
	}
}

// P9.4, P1: ErrNone and ErrLong ahead of what of is.
func TestOneNotRead(t *testing.T) {
	for _, of := range []string{"", "A", "AV", "AAAAAAAAAAAAAAAAAAAAA"} {
		wantOne(t, "", of, 0, api.ErrNone)
		wantOne(t, "AAAAAAAAAAAAAAAAAAAAA", of, 0, api.ErrLong)
		wantOne(t, "VVVVVVVVVVVVVVVVVVVVVV", of, 0, api.ErrLong)
	}
}

// P9.4: each byte in a text of all of them, and in one that lacks it.
func TestOneOfEachByte(t *testing.T) {
	all := make([]byte, 256)
	for x := range all {
		all[x] = byte(x)
	}
	for x := range all {
		one := string(all[x : x+1])
		wantOne(t, one, string(all), x, api.OK)
		wantOne(t, one, string(all)+string(all), x, api.OK)
		wantOne(t, one, string(all[x:]), 0, api.OK)
		wantOne(t, one, string(all[:x])+string(all[x+1:]), 0, api.ErrForm)
		for y := range all {
			wantOne(t, one+string(all[y:y+1]), string(all), 0, api.ErrForm)
		}
	}
}
