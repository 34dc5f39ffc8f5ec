package repair

import "testing"

// cycles are those that may be of UTC.
var cycles = []int{0, 100, 1024}

// P18.1: each leap second, the second ahead of it and the one behind it, by floors at both ends of those whose window has it.
func TestEachLeapSecond(t *testing.T) {
	for i, leap := range leapSeconds {
		sec := changes[i] - 1
		for _, cycle := range cycles {
			for _, floor := range []int64{max(0, leap-span+2), max(0, leap-span+3), max(0, leap-1_000_000), leap - 1} {
				wantMeant(t, utc(sec, cycle), floor, leap-1)
				wantMeant(t, leapBehind(sec, cycle), floor, leap)
				wantMeant(t, utc(sec+1, cycle), floor, leap+1)
			}
			wantMeant(t, leapBehind(sec, cycle), leap, leap)
			wantMeant(t, utc(sec+1, cycle), leap, leap+1)
			wantMeant(t, utc(sec+1, cycle), leap+1, leap+1)
			wantNone(t, leapBehind(sec, cycle), leap+1)
			wantNone(t, leapBehind(sec, cycle), leap+2)
			wantNone(t, leapBehind(sec, cycle), last)
		}
	}
}

// P18.1: a window that begins or ends about a leap second.
func TestWindowsAboutLeapSeconds(t *testing.T) {
	for i, leap := range leapSeconds {
		for _, floor := range []int64{leap - span - 1, leap - span, leap - span + 1, leap - span + 2, leap - 1, leap, leap + 1, leap + 2} {
			if floor < 0 {
				continue
			}
			for sec := changes[i] - 3; sec < changes[i]+2; sec++ {
				for _, cycle := range cycles {
					wantAsPlain(t, utc(sec, cycle), floor)
					wantAsPlain(t, leapBehind(sec, cycle), floor)
				}
			}
		}
		if leap >= span {
			wantNone(t, leapBehind(changes[i]-1, 1024), leap-span)
			wantMeant(t, leapBehind(changes[i]-1, 1024), leap-span+1, leap)
		}
	}
}

// P18.1: no leap second is behind any other second about those, nor behind the one ahead of the table's first line.
func TestNoLeapSecondBehindIt(t *testing.T) {
	for i, leap := range leapSeconds {
		for _, off := range []int64{-86_400, -61, -60, -2, -1, 1, 2, 59, 60, 86_400, 15_897_600} {
			for _, cycle := range cycles {
				wantNone(t, leapBehind(changes[i]-1+off, cycle), leap-1)
				wantNone(t, leapBehind(changes[i]-1+off, cycle), 0)
			}
		}
	}
	for _, sec := range []int64{epoch - 2, epoch - 1, epoch, epoch + 1, 0, -1, at(2018, 12, 31, 23, 59, 59), at(2019, 6, 30, 23, 59, 59), at(2099, 12, 31, 23, 59, 59), lastUTC - 1, lastUTC, lastUTC + 1, afterCivil - 1} {
		for _, cycle := range cycles {
			for _, floor := range []int64{0, 1, 1_000_000_000, 3_786_480_000, last - 1, last} {
				wantNone(t, leapBehind(sec, cycle), floor)
			}
		}
	}
}

// P18.1: a leap second that is told whole cycles off.
func TestLeapSecondsCyclesOff(t *testing.T) {
	for i, leap := range leapSeconds {
		sec := changes[i] - 1
		for _, floor := range []int64{max(0, leap-span+1), leap - 1000, leap} {
			for off := int64(-12); off <= 12; off++ {
				wantMeant(t, leapBehind(sec+off*span, 0), floor, leap)
				wantMeant(t, leapBehind(sec+off*span, 1024), floor, leap)
			}
		}
	}
}

// P18.1: a leap second that is told a century off, at the last second of a year and of a June.
func TestLeapSecondsCenturiesOff(t *testing.T) {
	for _, x := range []struct {
		year, month, day int
		leap             int64
	}{{1995, 12, 31, 504_489_610}, {1998, 12, 31, 599_184_012}, {2005, 12, 31, 820_108_813}, {2008, 12, 31, 914_803_214}, {2012, 6, 30, 1_025_136_015}, {2015, 6, 30, 1_119_744_016}, {2016, 12, 31, 1_167_264_017}} {
		for year := 1900 + x.year%100; year <= 2199; year += 100 {
			told := at(year, x.month, x.day, 23, 59, 59)
			wantMeant(t, leapBehind(told, 100), x.leap-1000, x.leap)
			wantMeant(t, leapBehind(told, 100), x.leap, x.leap)
			wantMeant(t, utc(told, 100), x.leap-1, x.leap-1)
			wantMeant(t, utc(told, 100), x.leap-1000, x.leap-1)
			wantMeant(t, utc(told+1, 100), x.leap, x.leap+1)
			wantNone(t, leapBehind(told, 100), x.leap+1)
			wantNone(t, leapBehind(told-1, 100), x.leap-1000)
			wantNone(t, leapBehind(told+1, 100), x.leap-1000)
		}
	}
	// The last second of a year ends a century, too, but no leap second is behind it.
	for _, year := range []int{1999, 2099, 2199} {
		wantNone(t, leapBehind(at(year, 12, 31, 23, 59, 59), 100), 600_000_000)
		wantNone(t, leapBehind(at(year, 12, 31, 23, 59, 59), 100), 3_780_000_000)
	}
}
