package field

import (
	"math"
	"math/rand"
	"strconv"
	"strings"
	"testing"

	"remontoire/api"
)

// P9.2, P9.3: the chapter's examples.
func TestExamplesOfNumbers(t *testing.T) {
	wantFixed(t, "12.3456", 2, 1234, api.OK)
	wantFixed(t, "-0.5", 1, -5, api.OK)
	wantInt(t, "012", 0, 99, 12, api.OK)
	wantInt(t, "100", 0, 99, 0, api.ErrOver)
	wantHex(t, "1F", 31, api.OK)
	wantHex(t, "1f", 0, api.ErrForm)
}

// P9.2
func TestIntWithinItsBounds(t *testing.T) {
	for _, x := range []struct {
		s           string
		least, most int64
		want        int64
		e           api.Errno
	}{
		{"0", 0, 0, 0, api.OK}, {"5", 5, 5, 5, api.OK}, {"4", 5, 5, 0, api.ErrOver}, {"6", 5, 5, 0, api.ErrOver},
		{"1980", 1980, 2199, 1980, api.OK}, {"1979", 1980, 2199, 0, api.ErrOver}, {"2199", 1980, 2199, 2199, api.OK}, {"2200", 1980, 2199, 0, api.ErrOver},
		{"0", -5, 5, 0, api.OK}, {"0", -5, -1, 0, api.ErrOver}, {"1", -5, -1, 0, api.ErrOver}, {"0", 1, 9, 0, api.ErrOver},
		// Of bounds the other way round nothing is within.
		{"5", 6, 4, 0, api.ErrOver}, {"5", 5, 4, 0, api.ErrOver}, {"5", 6, 5, 0, api.ErrOver}, {"5", 9, 1, 0, api.ErrOver}, {"0", most, least, 0, api.ErrOver}, {"0", 0, -1, 0, api.ErrOver},
		{"7", least, most, 7, api.OK}, {"0", least, 0, 0, api.OK}, {"1", least, 0, 0, api.ErrOver}, {"0", least, -1, 0, api.ErrOver},
		{"9223372036854775806", most, most, 0, api.ErrOver}, {"9223372036854775807", most, most, most, api.OK}, {"9223372036854775807", 0, most - 1, 0, api.ErrOver},
	} {
		wantInt(t, x.s, x.least, x.most, x.want, x.e)
	}
}

// P9.2: all numbers and bounds of a few.
func TestIntOfAllSmallBounds(t *testing.T) {
	for n := int64(0); n < 12; n++ {
		for least := int64(-2); least < 13; least++ {
			for most := int64(-2); most < 13; most++ {
				s := strconv.FormatInt(n, 10)
				if n < least || n > most {
					wantInt(t, s, least, most, 0, api.ErrOver)
					continue
				}
				wantInt(t, s, least, most, n, api.OK)
			}
		}
	}
}

// P9.2: numbers of up to 20 digits about 2^63 and 2^64, and such whose low 64 bits alone would be within.
func TestIntBeyondInt64(t *testing.T) {
	for _, x := range []struct {
		s    string
		want int64
	}{
		{"999999999999999999", 999_999_999_999_999_999}, {"1000000000000000000", 1_000_000_000_000_000_000}, {"9223372036854775799", most - 8}, {"9223372036854775800", most - 7},
		{"9223372036854775806", most - 1}, {"9223372036854775807", most}, {"09223372036854775807", most}, {"8999999999999999999", 8_999_999_999_999_999_999},
	} {
		wantInt(t, x.s, least, most, x.want, api.OK)
		wantInt(t, x.s, x.want, x.want, x.want, api.OK)
	}
	for _, s := range []string{
		"9223372036854775808", "9223372036854775809", "9223372036854775810", "09223372036854775808", "9999999999999999999", "10000000000000000000",
		"18446744073709551615", "18446744073709551616", "18446744073709551617", "18446744073709551621", "27670116110564327424", "36893488147419103232", "99999999999999999999",
	} {
		wantInt(t, s, least, most, 0, api.ErrOver)
		wantInt(t, s, 0, 99, 0, api.ErrOver)
		wantInt(t, s, least, -1, 0, api.ErrOver)
		wantInt(t, s, most, least, 0, api.ErrOver)
	}
}

// P9.2: zeros ahead, as many as may be.
func TestIntZerosAhead(t *testing.T) {
	for n := 1; n <= 20; n++ {
		zeros := strings.Repeat("0", n)
		wantInt(t, zeros, 0, 99, 0, api.OK)
		wantInt(t, zeros, 1, 99, 0, api.ErrOver)
		if n < 20 {
			wantInt(t, zeros+"7", 0, 99, 7, api.OK)
			wantInt(t, zeros+"7", 0, 6, 0, api.ErrOver)
			wantInt(t, zeros+"7", 8, 99, 0, api.ErrOver)
		}
	}
}

// P9.2
func TestIntForm(t *testing.T) {
	for _, s := range []string{
		"-", "+", ".", ",", " ", "-1", "+1", "1-", "1+", "--1", "1.", ".1", "1.0", "1,0", "1 ", " 1", "1 2", "A", "1A", "F", "0x1", "1e3", "1_0", "\x00", "1\x00", "\xff", "\xc2\xb2", "\xd9\xa3",
		"1\n", "-9223372036854775808", "/", ":", "9999999999999999999A", "A9999999999999999999",
	} {
		wantInt(t, s, least, most, 0, api.ErrForm)
		// What is not of the form is not within any bounds either.
		wantInt(t, s, 5, 4, 0, api.ErrForm)
	}
}

// P9.2: fields of 15, 16 and 20 bytes, which Int reads, and of 21.
func TestIntOfManyBytes(t *testing.T) {
	wantInt(t, "123456789012345", 0, most, 123_456_789_012_345, api.OK)
	wantInt(t, "1234567890123456", 0, most, 1_234_567_890_123_456, api.OK)
	wantInt(t, "01234567890123456789", 0, most, 1_234_567_890_123_456_789, api.OK)
	wantInt(t, "12345678901234567890", 0, most, 0, api.ErrOver)
	wantInt(t, "001234567890123456789", 0, most, 0, api.ErrLong)
}

// P9.2: drawn numbers of all lengths, and bounds about them.
func TestIntDrawn(t *testing.T) {
	r := rand.New(rand.NewSource(2))
	for range 20_000 {
		n := int64(r.Uint64()>>1) >> uint(r.Intn(63))
		s := strconv.FormatInt(n, 10)
		wantInt(t, s, least, most, n, api.OK)
		wantInt(t, s, n, n, n, api.OK)
		if n < most {
			wantInt(t, s, n+1, most, 0, api.ErrOver)
		}
		wantInt(t, s, least, n-1, 0, api.ErrOver)
	}
}

// P9.2
func TestHexKnown(t *testing.T) {
	for _, x := range []struct {
		s    string
		want int64
	}{
		{"0", 0}, {"1", 1}, {"9", 9}, {"A", 10}, {"B", 11}, {"C", 12}, {"D", 13}, {"E", 14}, {"F", 15}, {"10", 16}, {"7F", 127}, {"80", 128}, {"FF", 255}, {"00FF", 255},
		{"DEADBEEF", 0xDEADBEEF}, {"FFFFFFFF", 0xFFFFFFFF}, {"123456789ABCDEF", 0x123456789ABCDEF}, {"FEDCBA987654321", 0xFEDCBA987654321},
		{"FFFFFFFFFFFFFFF", 1<<60 - 1}, {"100000000000000", 1 << 56}, {"800000000000000", 1 << 59}, {"000000000000000", 0}, {"00000000000000F", 15},
	} {
		wantHex(t, x.s, x.want, api.OK)
	}
}

// P9.2
func TestHexForm(t *testing.T) {
	for _, s := range []string{
		"a", "f", "1f", "F1f", "aF", "G", "1G", "@", "`", "g", "/", ":", "-1", "+1", "1-", "0x1F", "0X1F", "1.", ".", "-", ",", " ", "1 ", " 1", "\x00", "F\xff", "ff",
		// More than 15 bytes, but not of the form.
		"000000000000000G", "a00000000000000000", "FFFFFFFFFFFFFFFFFFFf",
	} {
		wantHex(t, s, 0, api.ErrForm)
	}
}

// P9.2: 15 bytes and 16, 20 and 21; zeros ahead are bytes too.
func TestHexLong(t *testing.T) {
	for n := 1; n <= 30; n++ {
		for _, of := range []string{"0", "1", "F"} {
			s := strings.Repeat(of, n)
			if n > 15 {
				wantHex(t, s, 0, api.ErrLong)
				continue
			}
			want, _ := strconv.ParseInt(s, 16, 64)
			wantHex(t, s, want, api.OK)
		}
		small := strings.Repeat("f", n)
		if n > 20 {
			wantHex(t, small, 0, api.ErrLong)
			continue
		}
		wantHex(t, small, 0, api.ErrForm)
	}
}

// P9.2: all numbers of up to three digits, and drawn ones of up to 15.
func TestHexDrawn(t *testing.T) {
	ask := func(n int64) {
		s := strings.ToUpper(strconv.FormatInt(n, 16))
		wantHex(t, s, n, api.OK)
		if len(s) < 15 {
			wantHex(t, "0"+s, n, api.OK)
		}
	}
	for n := range int64(1 << 12) {
		ask(n)
	}
	r := rand.New(rand.NewSource(3))
	for range 20_000 {
		ask(int64(r.Uint64()>>4) >> uint(r.Intn(60)))
	}
}

// P9.3
func TestFixedKnown(t *testing.T) {
	for _, x := range []struct {
		s      string
		places int
		want   int64
	}{
		{"0", 0, 0}, {"0", 9, 0}, {"-0", 0, 0}, {"-0.0", 9, 0}, {"7", 0, 7}, {"7", 1, 70}, {"7", 9, 7_000_000_000}, {"-7", 0, -7}, {"-7", 3, -7000}, {"007", 2, 700}, {"-007.50", 1, -75},
		{"12.3456", 0, 12}, {"12.3456", 1, 123}, {"12.3456", 3, 12345}, {"12.3456", 4, 123456}, {"12.3456", 5, 1234560}, {"12.3456", 9, 12345600000},
		// What is beyond the places is left away, not rounded, above 0 and below.
		{"0.9", 0, 0}, {"-0.9", 0, 0}, {"1.9", 0, 1}, {"-1.9", 0, -1}, {"0.99", 1, 9}, {"-0.99", 1, -9}, {"0.09", 1, 0}, {"-0.09", 1, 0}, {"12.349", 2, 1234}, {"-12.345", 2, -1234}, {"-12.349999", 2, -1234},
		{"545.4", 3, 545_400}, {"-22.417", 3, -22_417}, {"084.4", 2, 8440}, {"022.4", 3, 22_400}, {"0.001", 3, 1}, {"0.0009", 3, 0}, {"-0.0019", 3, -1}, {"9.80665", 4, 98_066},
		{"999999999", 0, 999_999_999}, {"999999999", 9, 999_999_999_000_000_000}, {"999999999.999999999", 9, 999_999_999_999_999_999}, {"-999999999.999999999", 9, -999_999_999_999_999_999},
		{"-999999999.99999999", 8, -99_999_999_999_999_999}, {"999999999.9999999999", 9, 999_999_999_999_999_999}, {"000000001.5", 1, 15}, {"0.000000001", 9, 1}, {"-0.000000001", 9, -1}, {"-0.000000001", 8, 0},
		{"1.234567890123456789", 9, 1_234_567_890}, {"-1.23456789012345678", 9, -1_234_567_890}, {"0.123456789987654321", 9, 123_456_789},
	} {
		wantFixed(t, x.s, x.places, x.want, api.OK)
	}
}

// P9.3
func TestFixedForm(t *testing.T) {
	for _, s := range []string{
		".", "-", "+", "-.", ".-", "--", "..", ",", " ", "1.", "-1.", ".5", "-.5", ".5.", "1..5", "1.5.", "1.5.5", ".1.5", "--1", "-+1", "+1", "+1.5", "1-", "1.5-", "1-5", "1.-5", "-1-", "- 1", "-1 ", "1,5", "1.5,",
		"1e3", "1E3", "1.5e1", "0x1", "0x1p3", "1_0", "1.0_0", "Inf", "NaN", "inf", "A", "1A", "1.A", "1.5A", "A.5", "1/2", "1:5", "1.\x00", "\x001", "1\xff", "1.5\n", "\xef\xbc\x91",
		// Ten digits ahead of the point, but not of the form.
		"1234567890.", "1234567890-", "1234567890.5.5", "1234567890A", "--1234567890",
	} {
		for places := range 10 {
			wantFixed(t, s, places, 0, api.ErrForm)
		}
	}
}

// P9.3: nine digits ahead of the point and ten, zeros too.
func TestFixedOver(t *testing.T) {
	for places := range 10 {
		for _, sign := range []string{"", "-"} {
			for _, behind := range []string{"", ".0", ".5", ".99999999"} {
				for n := 1; n <= 11; n++ {
					for _, of := range []string{"0", "1", "9"} {
						s := sign + strings.Repeat(of, n) + behind
						if n > 9 {
							wantFixed(t, s, places, 0, unreadOr(s, api.ErrOver))
							continue
						}
						want, e := modelFixed(t, s, places)
						wantFixed(t, s, places, want, e)
					}
				}
			}
		}
	}
	wantFixed(t, "00000000000000000000", 0, 0, api.ErrOver)
	wantFixed(t, "-0000000000000000001", 9, 0, api.ErrOver)
	wantFixed(t, "000000000000000001.5", 9, 0, api.ErrOver)
	wantFixed(t, "0.000000000000000001", 9, 0, api.OK)
}

// unreadOr is what all calls but Split tell first, or else that error.
func unreadOr(s string, err api.Errno) api.Errno {
	if e := unread(s); e != api.OK {
		return e
	}
	return err
}

// P9.3, P1: places that may not be, ahead of the form and of what is over, but behind a field that is not read.
func TestFixedPlaces(t *testing.T) {
	for _, places := range []int{math.MinInt, math.MinInt32, -10, -9, -2, -1, 10, 11, 18, 19, 20, 255, 256, 1 << 32, math.MaxInt - 1, math.MaxInt} {
		for _, s := range []string{"0", "1.5", "-1.5", "1234567890", "1234567890.5", "A", ".", "-", "1.", "--1", "00000000000000000000"} {
			wantFixed(t, s, places, 0, api.ErrArg)
		}
		wantFixed(t, "", places, 0, api.ErrNone)
		wantFixed(t, "000000000000000000000", places, 0, api.ErrLong)
		wantFixed(t, "A00000000000000000000", places, 0, api.ErrLong)
	}
	wantFixed(t, "1.5", 0, 1, api.OK)
	wantFixed(t, "1.5", 9, 1_500_000_000, api.OK)
}

// P9.3: fields of 15, 16, 20 and 21 bytes.
func TestFixedOfManyBytes(t *testing.T) {
	wantFixed(t, "123456789.12345", 5, 12_345_678_912_345, api.OK)
	wantFixed(t, "-123456789.12345", 5, -12_345_678_912_345, api.OK)
	wantFixed(t, "-123456789.123456789", 9, -123_456_789_123_456_789, api.OK)
	wantFixed(t, "-123456789.1234567890", 9, 0, api.ErrLong)
	wantFixed(t, "123456789.12345678901", 9, 0, api.ErrLong)
	wantFixed(t, "1.2345678901234567890", 0, 0, api.ErrLong)
}

// P9.3: drawn numbers, written with all places behind the point.
func TestFixedDrawn(t *testing.T) {
	r := rand.New(rand.NewSource(4))
	for range 3_000 {
		ahead := strconv.FormatInt(r.Int63n(1_000_000_000)>>uint(r.Intn(30)), 10)
		for behind := range 10 {
			s := ahead
			if behind > 0 {
				s += "." + drawnText(r, "0123456789", behind)
			}
			for places := range 10 {
				n, e := modelFixed(t, s, places)
				wantFixed(t, s, places, n, e)
				wantFixed(t, "-"+s, places, -n, e)
			}
		}
	}
}
