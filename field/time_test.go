package field

import (
	"strings"
	"testing"

	"remontoire/api"
)

// two is two digits of a number.
func two(n int) string { return string([]byte{byte('0' + n/10), byte('0' + n%10)}) }

func daytime(h, m, s int, whole bool) api.DayTime {
	return api.DayTime{H: h, M: m, S: s, Whole: whole}
}

// P9.4: the chapter's examples.
func TestExamplesOfTimes(t *testing.T) {
	wantClock(t, "123519.00", daytime(12, 35, 19, true), api.OK)
	wantClock(t, "235960", daytime(23, 59, 60, true), api.OK)
}

// P9.4: all six digits, with and without a point.
func TestClockOfAllDigits(t *testing.T) {
	for h := range 100 {
		for m := range 100 {
			for s := range 100 {
				text := two(h) + two(m) + two(s)
				if h > 23 || m > 59 || s > 60 {
					wantClock(t, text, api.DayTime{}, api.ErrForm)
					continue
				}
				wantClock(t, text, daytime(h, m, s, true), api.OK)
				wantClock(t, text+".00", daytime(h, m, s, true), api.OK)
				wantClock(t, text+".01", daytime(h, m, s, false), api.OK)
			}
		}
	}
}

// P9.4
func TestClockKnown(t *testing.T) {
	for _, x := range []struct {
		s    string
		want api.DayTime
	}{
		{"000000", daytime(0, 0, 0, true)}, {"235959", daytime(23, 59, 59, true)}, {"230000", daytime(23, 0, 0, true)}, {"005900", daytime(0, 59, 0, true)}, {"000060", daytime(0, 0, 60, true)}, {"120060", daytime(12, 0, 60, true)},
		{"000000.0", daytime(0, 0, 0, true)}, {"000000.1", daytime(0, 0, 0, false)}, {"123519.5", daytime(12, 35, 19, false)}, {"123519.000", daytime(12, 35, 19, true)}, {"123519.001", daytime(12, 35, 19, false)},
		{"123519.100", daytime(12, 35, 19, false)}, {"123519.010", daytime(12, 35, 19, false)}, {"235960.00", daytime(23, 59, 60, true)}, {"235960.99", daytime(23, 59, 60, false)}, {"123519.9", daytime(12, 35, 19, false)},
		// 15, 16 and 20 bytes.
		{"123519.00000000", daytime(12, 35, 19, true)}, {"123519.000000001", daytime(12, 35, 19, false)}, {"123519.0000000000000", daytime(12, 35, 19, true)}, {"123519.0000000000001", daytime(12, 35, 19, false)},
		{"123519.1000000000000", daytime(12, 35, 19, false)}, {"123519.9999999999999", daytime(12, 35, 19, false)},
	} {
		wantClock(t, x.s, x.want, api.OK)
	}
}

// P9.4: of all digits behind the point, at all places, it is only 0 that leaves the second whole.
func TestClockWhole(t *testing.T) {
	for n := 1; n <= 13; n++ {
		zeros := strings.Repeat("0", n)
		wantClock(t, "010203."+zeros, daytime(1, 2, 3, true), api.OK)
		for place := range n {
			for _, digit := range []string{"1", "2", "3", "4", "5", "6", "7", "8", "9"} {
				wantClock(t, "010203."+zeros[:place]+digit+zeros[place+1:], daytime(1, 2, 3, false), api.OK)
			}
		}
	}
}

// P9.4
func TestClockForm(t *testing.T) {
	for _, s := range []string{
		// Hours, minutes, seconds that may not be.
		"240000", "250000", "990000", "006000", "009900", "000061", "000099", "240060", "236060", "235961", "240000.00", "006000.5", "000061.0",
		// Too few digits and too many, with and without a point.
		"1", "12", "123", "1234", "12351", "1235190", "01235190", "12351.00", "1235190.00", "1.5", "123519123519",
		// A point with no digits behind or ahead, two points, a point elsewhere.
		"123519.", ".", ".0", ".123519", "123519..", "123519..0", "123519.0.", "123519.0.0", "1235.19", "12.3519", "12.35.19", "12351.9",
		// Signs, letters, others.
		"-", "-123519", "+123519", "123519-", "12-519", "-12351", "+12351", "12351-", "1235-9", "123519.-1", "123519.+1", "123519.5-", "123519,00", "123519.0,", "12:35:19", "12 519", " 12351", "12351 ", "12351A", "A23519", "123519Z", "123519.A", "123519.0Z",
		"123519.\x00", "12351\x00", "\xff23519", "123519\xff", "123519.\xff", "123519.0\n", "\xd9\xa123519",
	} {
		wantClock(t, s, api.DayTime{}, api.ErrForm)
	}
}

// P9.4: 20 bytes and 21.
func TestClockLong(t *testing.T) {
	wantClock(t, "123519.0000000000000", daytime(12, 35, 19, true), api.OK)
	wantClock(t, "123519.00000000000000", api.DayTime{}, api.ErrLong)
	wantClock(t, "240000.0000000000000", api.DayTime{}, api.ErrForm)
	wantClock(t, "240000.00000000000000", api.DayTime{}, api.ErrLong)
}

// P9.4: all six digits.
func TestDateOfAllDigits(t *testing.T) {
	for day := range 100 {
		for month := range 100 {
			for year := range 100 {
				text := two(day) + two(month) + two(year)
				if day < 1 || day > 31 || month < 1 || month > 12 {
					wantDate(t, text, [3]int{}, api.ErrForm)
					continue
				}
				wantDate(t, text, [3]int{day, month, year}, api.OK)
			}
		}
	}
}

// P9.4: whether a month has that day is not asked.
func TestDateKnown(t *testing.T) {
	for _, x := range []struct {
		s    string
		want [3]int
	}{
		{"230394", [3]int{23, 3, 94}}, {"010100", [3]int{1, 1, 0}}, {"311299", [3]int{31, 12, 99}}, {"060180", [3]int{6, 1, 80}}, {"290200", [3]int{29, 2, 0}}, {"310201", [3]int{31, 2, 1}}, {"310499", [3]int{31, 4, 99}},
	} {
		wantDate(t, x.s, x.want, api.OK)
	}
}

// P9.4
func TestDateForm(t *testing.T) {
	for _, s := range []string{
		"000101", "320101", "990101", "010001", "011301", "019901", "000000", "320001", "001301", "999999",
		"1", "01", "0101", "01011", "0101011", "01012001", "2001-01-01", "01/01/01", "010101.", "010101.0", ".010101", "010.01", "01.101", ".", "-", ",", " ",
		"-10101", "+10101", "-010101", "010101-", "01010-", "0101-1", "01 101", " 10101", "01010 ", "01010A", "A10101", "0101\x001", "01010\xff", "010101\n", "\xd9\xa10101",
		// 15, 16 and 20 bytes.
		"010101000000000", "0101010000000000", "01010100000000000000",
	} {
		wantDate(t, s, [3]int{}, api.ErrForm)
	}
	wantDate(t, "010101000000000000000", [3]int{}, api.ErrLong)
}
