package field

import (
	"math"
	"math/big"
	"math/rand"
	"regexp"
	"strings"
	"testing"

	"remontoire/api"
)

const (
	most  int64 = math.MaxInt64
	least int64 = math.MinInt64
)

// The forms, as patterns.
var (
	intForm   = regexp.MustCompile(`\A[0-9]+\z`)
	hexForm   = regexp.MustCompile(`\A[0-9A-F]+\z`)
	fixedForm = regexp.MustCompile(`\A-?([0-9]+)(\.[0-9]+)?\z`)
	clockForm = regexp.MustCompile(`\A([01][0-9]|2[0-3])([0-5][0-9])([0-5][0-9]|60)(\.[0-9]+)?\z`)
	wholeForm = regexp.MustCompile(`\A[0-9]{6}(\.0+)?\z`)
	dateForm  = regexp.MustCompile(`\A(0[1-9]|[12][0-9]|3[01])(0[1-9]|1[0-2])([0-9][0-9])\z`)
)

// unread is what all calls but Split tell first.
func unread(s string) api.Errno {
	if len(s) == 0 {
		return api.ErrNone
	}
	if len(s) > 20 {
		return api.ErrLong
	}
	return api.OK
}

// exact is the number of digits in a base, without a bound.
func exact(t *testing.T, s string, base int) *big.Int {
	t.Helper()
	n, ok := new(big.Int).SetString(s, base)
	if !ok {
		t.Fatalf("%q is no number", s)
	}
	return n
}

// twoDigits is the number of two bytes that are digits.
func twoDigits(s string) int { return 10*int(s[0]-'0') + int(s[1]-'0') }

func modelInt(t *testing.T, s string, least, most int64) (int64, api.Errno) {
	if e := unread(s); e != api.OK {
		return 0, e
	}
	if !intForm.MatchString(s) {
		return 0, api.ErrForm
	}
	n := exact(t, s, 10)
	if n.Cmp(big.NewInt(least)) < 0 || n.Cmp(big.NewInt(most)) > 0 {
		return 0, api.ErrOver
	}
	return n.Int64(), api.OK
}

func modelHex(t *testing.T, s string) (int64, api.Errno) {
	if e := unread(s); e != api.OK {
		return 0, e
	}
	if !hexForm.MatchString(s) {
		return 0, api.ErrForm
	}
	if len(s) > 15 {
		return 0, api.ErrLong
	}
	return exact(t, s, 16).Int64(), api.OK
}

func modelFixed(t *testing.T, s string, places int) (int64, api.Errno) {
	if e := unread(s); e != api.OK {
		return 0, e
	}
	if places < 0 || places > 9 {
		return 0, api.ErrArg
	}
	parts := fixedForm.FindStringSubmatch(s)
	if parts == nil {
		return 0, api.ErrForm
	}
	if len(parts[1]) > 9 {
		return 0, api.ErrOver
	}
	n, ok := new(big.Rat).SetString(s)
	if !ok {
		t.Fatalf("%q is no number", s)
	}
	n.Mul(n, new(big.Rat).SetInt64(int64(math.Pow10(places))))
	// Quo leaves what is beyond away, also below 0.
	return new(big.Int).Quo(n.Num(), n.Denom()).Int64(), api.OK
}

func modelClock(s string) (api.DayTime, api.Errno) {
	if e := unread(s); e != api.OK {
		return api.DayTime{}, e
	}
	parts := clockForm.FindStringSubmatch(s)
	if parts == nil {
		return api.DayTime{}, api.ErrForm
	}
	return api.DayTime{H: twoDigits(parts[1]), M: twoDigits(parts[2]), S: twoDigits(parts[3]), Whole: wholeForm.MatchString(s)}, api.OK
}

func modelDate(s string) (date [3]int, e api.Errno) {
	if e := unread(s); e != api.OK {
		return date, e
	}
	parts := dateForm.FindStringSubmatch(s)
	if parts == nil {
		return date, api.ErrForm
	}
	return [3]int{twoDigits(parts[1]), twoDigits(parts[2]), twoDigits(parts[3])}, api.OK
}

func modelOne(s, of string) (int, api.Errno) {
	if e := unread(s); e != api.OK {
		return 0, e
	}
	for i := range len(of) {
		if s == of[i:i+1] {
			return i, api.OK
		}
	}
	return 0, api.ErrForm
}

func wantInt(t *testing.T, s string, least, most, want int64, err api.Errno) {
	t.Helper()
	if got, e := Int(s, least, most); got != want || e != err {
		t.Errorf("Int of %q, %d to %d: got %d, %d, want %d, %d", s, least, most, got, e, want, err)
	}
}

func wantHex(t *testing.T, s string, want int64, err api.Errno) {
	t.Helper()
	if got, e := Hex(s); got != want || e != err {
		t.Errorf("Hex of %q: got %d, %d, want %d, %d", s, got, e, want, err)
	}
}

func wantFixed(t *testing.T, s string, places int, want int64, err api.Errno) {
	t.Helper()
	if got, e := Fixed(s, places); got != want || e != err {
		t.Errorf("Fixed of %q, %d places: got %d, %d, want %d, %d", s, places, got, e, want, err)
	}
}

func wantClock(t *testing.T, s string, want api.DayTime, err api.Errno) {
	t.Helper()
	if got, e := Clock(s); got != want || e != err {
		t.Errorf("Clock of %q: got %v, %d, want %v, %d", s, got, e, want, err)
	}
}

func wantDate(t *testing.T, s string, want [3]int, err api.Errno) {
	t.Helper()
	if day, month, year, e := Date(s); [3]int{day, month, year} != want || e != err {
		t.Errorf("Date of %q: got %d, %d, %d, %d, want %v, %d", s, day, month, year, e, want, err)
	}
}

func wantOne(t *testing.T, s, of string, want int, err api.Errno) {
	t.Helper()
	if got, e := One(s, of); got != want || e != err {
		t.Errorf("One of %q, of %q: got %d, %d, want %d, %d", s, of, got, e, want, err)
	}
}

// wantAsModels asks all calls but Split of one field, with bounds and places at which something turns.
func wantAsModels(t *testing.T, s string) {
	t.Helper()
	for _, bounds := range [][2]int64{{least, most}, {0, 99}, {5, 4}, {1980, 2199}, {-7, -1}} {
		n, e := modelInt(t, s, bounds[0], bounds[1])
		wantInt(t, s, bounds[0], bounds[1], n, e)
	}
	for _, places := range []int{0, 1, 2, 3, 8, 9, -1, 10} {
		n, e := modelFixed(t, s, places)
		wantFixed(t, s, places, n, e)
	}
	n, e := modelHex(t, s)
	wantHex(t, s, n, e)
	at, e := modelClock(s)
	wantClock(t, s, at, e)
	date, e := modelDate(s)
	wantDate(t, s, date, e)
	for _, of := range []string{"", "AV", "0123456789", "10.-01", "\xff\x00,AA"} {
		place, e := modelOne(s, of)
		wantOne(t, s, of, place, e)
	}
}

// wantNothing asks that all calls but Split tell that error of a field, and nothing beside it, whatever their other arguments are.
func wantNothing(t *testing.T, s string, err api.Errno) {
	t.Helper()
	for _, n := range []int{math.MinInt, -1, 0, 5, 9, 10, math.MaxInt} {
		wantInt(t, s, least, int64(n), 0, err)
		wantInt(t, s, int64(n), most, 0, err)
		wantFixed(t, s, n, 0, err)
	}
	wantHex(t, s, 0, err)
	wantClock(t, s, api.DayTime{}, err)
	wantDate(t, s, [3]int{}, err)
	for _, of := range []string{"", "0", "1A", s, strings.Repeat("1", 300)} {
		wantOne(t, s, of, 0, err)
	}
}

// drawnText is n bytes of an alphabet.
func drawnText(r *rand.Rand, alphabet string, n int) string {
	out := make([]byte, n)
	for i := range out {
		out[i] = alphabet[r.Intn(len(alphabet))]
	}
	return string(out)
}

// allTexts are all texts of an alphabet of at most so many bytes.
func allTexts(alphabet string, longest int) []string {
	out := []string{""}
	for from := 0; longest > 0; longest-- {
		to := len(out)
		for _, s := range out[from:to] {
			for i := range len(alphabet) {
				out = append(out, s+alphabet[i:i+1])
			}
		}
		from = to
	}
	return out
}

// P9.2, P9.3, P9.4, P1: all short texts of a few bytes.
func TestAllShortTexts(t *testing.T) {
	for _, s := range allTexts("056.-AF", 5) {
		wantAsModels(t, s)
	}
	for _, s := range allTexts("019.- +,afV\x00\xff", 3) {
		wantAsModels(t, s)
	}
}

// P9.2, P9.3, P9.4, P1: drawn texts of all lengths, most of them of one form or nearly.
func TestDrawnTexts(t *testing.T) {
	r := rand.New(rand.NewSource(1))
	for _, alphabet := range []string{"0123456789", "01", "012356", "0000.9", "0123456789.", "0123456789ABCDEF", "0123456789-", "0.9-AFa,+ \x00\xff\xc3\xa4"} {
		for n := range 25 {
			for range 60 {
				s := drawnText(r, alphabet, n)
				wantAsModels(t, s)
				wantAsModels(t, "-"+s)
				wantAsModels(t, "12.5"+s)
				wantAsModels(t, "235960"+s)
				wantAsModels(t, "311299."+s)
			}
		}
	}
}

// P9.2, P9.3, P9.4, P1: each byte in each place of short fields that may be read, in place of a byte and between two.
func TestEachByteInEachPlace(t *testing.T) {
	for _, s := range []string{"7", "12", "1F0", "0456", "-1.5", "12.34", "123519", "235960.0", "310199", "123519.25"} {
		for place := 0; place <= len(s); place++ {
			for x := range 256 {
				one := string([]byte{byte(x)})
				wantAsModels(t, s[:place]+one+s[place:])
				if place < len(s) {
					wantAsModels(t, s[:place]+one+s[place+1:])
				}
			}
		}
	}
}

// P9.2, P9.3, P9.4: ErrNone, ahead of all else, of an empty field.
func TestEmptyField(t *testing.T) {
	wantNothing(t, "", api.ErrNone)
	wantNothing(t, "12"[2:], api.ErrNone)
}

// P9.2, P9.3, P9.4, P1: ErrLong, ahead of all else, of more than 20 bytes, whatever they are.
func TestLongField(t *testing.T) {
	for _, of := range []string{"0", "9", "A", "f", "-", ".", ",", " ", "\x00", "\xff"} {
		for _, n := range []int{21, 22, 40, 256, 65536, 1 << 20} {
			wantNothing(t, strings.Repeat(of, n), api.ErrLong)
		}
	}
	for _, s := range []string{"123519.00000000000000", "-12.34567890123456789", "000000000000000000012", "01010100000000000000000", "123456789012345678901"} {
		wantNothing(t, s, api.ErrLong)
	}
}
