package repair

import "testing"

// starts are the GPS seconds of the first seconds of some years.
const (
	of1990 int64 = 315_187_206
	of2000 int64 = 630_720_013
	of2090 int64 = 3_470_947_218
	of2100 int64 = 3_786_480_018
)

// told100 are the UTC seconds of a date and a time in the years of those last two digits, in all centuries.
func told100(year, month, day, hour, minute, second int) []int64 {
	return []int64{
		at(1900+year, month, day, hour, minute, second), at(2000+year, month, day, hour, minute, second), at(2100+year, month, day, hour, minute, second),
	}
}

// P18.1: floors ahead of and behind the turn of a century.
func TestTurnOfACentury(t *testing.T) {
	for _, turn := range []int64{of2000, of2100} {
		for _, sec := range told100(99, 12, 31, 23, 59, 59) {
			wantMeant(t, utc(sec, 100), turn-1, turn-1)
			wantMeant(t, utc(sec, 100), turn-100_000, turn-1)
			wantMeant(t, utc(sec, 100), turn-span, turn-1)
			wantNone(t, utc(sec, 100), turn-span-1)
			wantNone(t, utc(sec, 100), turn)
			wantNone(t, utc(sec, 100), turn+100_000)
		}
		for _, sec := range told100(0, 1, 1, 0, 0, 0) {
			wantMeant(t, utc(sec, 100), turn-1, turn)
			wantMeant(t, utc(sec, 100), turn-100_000, turn)
			wantMeant(t, utc(sec, 100), turn-span+1, turn)
			wantMeant(t, utc(sec, 100), turn, turn)
			wantNone(t, utc(sec, 100), turn-span)
			wantNone(t, utc(sec, 100), turn+1)
			wantNone(t, utc(sec, 100), turn+100_000)
		}
	}
	for _, sec := range told100(1, 1, 1, 0, 0, 0) {
		wantMeant(t, utc(sec, 100), of2000-5, of2000+366*86_400)
		wantMeant(t, utc(sec, 100), of2100-5, of2100+365*86_400)
	}
}

// P18.1: the 29th of February of a year ending in 00 is a date in 2000 alone; the days about it are dates of them all.
func TestLeapDayOfOneCentury(t *testing.T) {
	day := utc(at(2000, 2, 29, 0, 0, 0), 100)
	wantMeant(t, day, of1990, 635_817_613)
	wantMeant(t, day, 635_817_613, 635_817_613)
	wantNone(t, day, 635_817_614)
	wantNone(t, day, of2090)
	wantNone(t, day, of2100)
	wantNone(t, day, 3_791_577_618)
	wantNone(t, day, 3_791_577_618-86_400)
	noon := utc(at(2000, 2, 29, 12, 34, 56), 100)
	wantMeant(t, noon, of1990, 635_817_613+45_296)
	wantNone(t, noon, of2090)
	for _, sec := range []int64{at(1900, 2, 28, 23, 59, 59), at(2000, 2, 28, 23, 59, 59), at(2100, 2, 28, 23, 59, 59)} {
		wantMeant(t, utc(sec, 100), of1990, 635_817_612)
		wantMeant(t, utc(sec, 100), of2090, 3_791_577_617)
	}
	for _, sec := range told100(0, 3, 1, 0, 0, 0) {
		wantMeant(t, utc(sec, 100), of1990, 635_904_013)
		wantMeant(t, utc(sec, 100), of2090, 3_791_577_618)
	}
	// Of years ending otherwise it is one in all centuries, or in none.
	for _, sec := range told100(4, 2, 29, 0, 0, 0) {
		wantMeant(t, utc(sec, 100), of1990, 762_048_013)
		wantMeant(t, utc(sec, 100), of2090, 3_917_721_618)
	}
}

// P18.1, P1: a second that layer 3 does not have means none; its first and its last one mean one.
func TestNoSecondOfLayer3(t *testing.T) {
	for _, sec := range []int64{-far, -far + 1, -epoch, -afterCivil, -86_400, -2, -1, afterCivil, afterCivil + 1, afterCivil + 86_400, 2 * afterCivil, far - 1, far} {
		for _, floor := range []int64{0, of1990, of2000, of2090, of2100, last} {
			wantNone(t, utc(sec, 100), floor)
			wantNone(t, leapBehind(sec, 100), floor)
		}
	}
	wantMeant(t, utc(0, 100), of1990, of2000)
	wantMeant(t, utc(1, 100), of1990, of2000+1)
	wantMeant(t, utc(afterCivil-1, 100), of1990, of2000-1)
	wantMeant(t, utc(afterCivil-1, 100), of2090, of2100-1)
}

// P18.1: a window has one second of some years, and none of others.
func TestWindowsOfACentury(t *testing.T) {
	floor, _ := plainGPS(at(2020, 1, 1, 0, 0, 0), false)
	for year := range 100 {
		for _, sec := range told100(year, 7, 1, 12, 0, 0) {
			meant, ok := plainGPS(at(2000+year, 7, 1, 12, 0, 0), false)
			if ok && meant >= floor && meant < floor+span {
				wantMeant(t, utc(sec, 100), floor, meant)
				wantMeant(t, utc(sec, 100), meant, meant)
				wantMeant(t, utc(sec, 100), meant-span+1, meant)
				continue
			}
			if year >= 20 && year < 39 {
				t.Errorf("the year %d is in the window", year)
			}
			wantNone(t, utc(sec, 100), floor)
		}
	}
}

// P18.1: of years ahead of 1980 those of the next centuries are meant alone.
func TestYearsAheadOfGPS(t *testing.T) {
	for _, sec := range told100(79, 12, 31, 23, 59, 59) {
		wantNone(t, utc(sec, 100), 0)
		wantNone(t, utc(sec, 100), 13)
		wantMeant(t, utc(sec, 100), 3_000_000_000, 3_155_328_017)
	}
	for _, sec := range told100(80, 1, 5, 23, 59, 59) {
		wantNone(t, utc(sec, 100), 0)
		wantNone(t, utc(sec, 100), span)
	}
	for _, sec := range told100(80, 1, 6, 0, 0, 0) {
		wantMeant(t, utc(sec, 100), 0, 0)
		wantNone(t, utc(sec, 100), 1)
	}
	for _, sec := range told100(70, 2, 22, 10, 39, 42) {
		wantMeant(t, utc(sec, 100), last-86_400, last)
		wantMeant(t, utc(sec, 100), last, last)
		wantNone(t, utc(sec+1, 100), last-86_400)
	}
}

// P18.1: what is off by weeks is not off by centuries, and what is off by centuries is not off by weeks.
func TestEachCycleIsItsOwn(t *testing.T) {
	sec := at(2020, 1, 1, 0, 0, 0)
	const floor = 1_261_872_018
	for _, cycle := range []int{0, 1024} {
		wantMeant(t, utc(sec-span, cycle), floor, floor)
		wantMeant(t, utc(sec+span, cycle), floor, floor)
		wantMeant(t, utc(at(1920, 1, 1, 0, 0, 0), cycle), floor, 1_822_003_218)
		wantMeant(t, utc(at(2120, 1, 1, 0, 0, 0), cycle), floor, 1_320_969_618)
	}
	wantNone(t, utc(sec-span, 100), floor)
	wantNone(t, utc(sec+span, 100), floor)
	wantMeant(t, utc(sec+span, 100), floor+1, floor+span)
	wantMeant(t, utc(at(1920, 1, 1, 0, 0, 0), 100), floor, floor)
	wantMeant(t, utc(at(2120, 1, 1, 0, 0, 0), 100), floor, floor)
}
