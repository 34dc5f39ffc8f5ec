package repair

import (
	"testing"

	"remontoire/api"
)

// wantWindow wants of both scales the second at the floor, the last one of its window, and neither the one ahead of it nor the one behind it; no leap second is among those, and all are GPS seconds.
func wantWindow(t *testing.T, floor int64) {
	t.Helper()
	for _, cycle := range []int{0, 1024} {
		wantMeant(t, gps(floor, cycle), floor, floor)
		wantMeant(t, gps(floor+span-1, cycle), floor, floor+span-1)
		// What is ahead of the window is congruent to its last second, what is behind it to its first one.
		wantMeant(t, gps(floor-1, cycle), floor, floor+span-1)
		wantMeant(t, gps(floor+span, cycle), floor, floor)
		for _, second := range []int64{floor, floor + span - 1} {
			m := plainUTC(second)
			m.Cycle = cycle
			wantMeant(t, m, floor, second)
		}
		for _, second := range []int64{floor - 1, floor + span} {
			m := plainUTC(second)
			m.Cycle = cycle
			wantAsPlain(t, m, floor)
			if got, e := GPS(m, floor); e == api.OK && got == second {
				t.Errorf("floor %d: %d is not in its window", floor, second)
			}
		}
	}
}

// P18.1: a window's first and last second, in both scales.
func TestWindows(t *testing.T) {
	for _, floor := range []int64{1, 2, 14, 700_000_000, 1_000_000_000, 1_261_872_018, 2_000_000_000, 3_786_480_018, last - span, last - span - 1} {
		wantWindow(t, floor)
	}
}

// P18.1: behind the last leap second the UTC seconds of a window are congruent just as its GPS seconds are.
func TestWindowBehindTheLastLeapSecond(t *testing.T) {
	const floor = 1_261_872_018
	sec := at(2020, 1, 1, 0, 0, 0)
	for _, cycle := range []int{0, 1024} {
		wantMeant(t, utc(sec, cycle), floor, floor)
		wantMeant(t, utc(sec-1, cycle), floor, floor+span-1)
		wantMeant(t, utc(sec+span-1, cycle), floor, floor+span-1)
		wantMeant(t, utc(sec+span, cycle), floor, floor)
		wantMeant(t, utc(sec-1, cycle), floor-1, floor-1)
	}
}

// P18.1: whole cycles of weeks off, in both directions, as far as a second may be.
func TestCyclesOff(t *testing.T) {
	for _, x := range [][2]int64{{0, 0}, {0, span - 1}, {1_000_000_000, 1_000_000_000}, {1_000_000_000, 1_167_264_018}, {1_000_000_000, 1_300_000_000}, {5_000_000_000, 5_500_000_000}, {last, last}} {
		floor, second := x[0], x[1]
		m := plainUTC(second)
		for _, cycle := range []int{0, 1024} {
			for off := -2*far/span - 10; off <= 2*far/span+10; off++ {
				wantOff(t, gps(second+off*span, cycle), floor, second)
				wantOff(t, utc(m.Sec+off*span, cycle), floor, second)
			}
		}
	}
}

// wantOff wants that second, or ErrOver, if the message's second is too far off.
func wantOff(t *testing.T, m api.Msg, floor, second int64) {
	t.Helper()
	if m.Sec < -far || m.Sec > far {
		want(t, m, floor, 0, api.ErrOver)
		return
	}
	wantMeant(t, m, floor, second)
}

// P18.1: UTC seconds ahead of the scale of GPS; what is congruent to them lies in it.
func TestAheadOfGPS(t *testing.T) {
	for _, cycle := range []int{0, 1024} {
		// 13 leap seconds stand between the one ahead of the first GPS second and the one 1024 weeks behind it.
		wantNone(t, utc(epoch-1, cycle), 0)
		wantNone(t, utc(epoch-1, cycle), 12)
		wantMeant(t, utc(epoch-1, cycle), 13, span+12)
		wantMeant(t, utc(epoch-1, cycle), span+12, span+12)
		wantNone(t, utc(epoch-1, cycle), span+13)
		wantMeant(t, utc(epoch-86_400, cycle), 0, span-86_400+13)
		wantMeant(t, utc(epoch-span, cycle), 0, 0)
		wantMeant(t, utc(epoch-5*span+7, cycle), 0, 7)
		wantMeant(t, gps(-1, cycle), 0, span-1)
		wantMeant(t, gps(-span, cycle), 0, 0)
	}
	for _, sec := range []int64{epoch - 1, epoch - 2, epoch - 86_400, epoch - 5*86_400} {
		wantNone(t, utc(sec, 100), 0)
	}
	wantMeant(t, utc(epoch, 100), 0, 0)
}

// P18.1: no GPS second is beyond the last one, though the window would have it.
func TestBehindTheLastSecond(t *testing.T) {
	for _, cycle := range []int{0, 1024} {
		for _, floor := range []int64{last - span + 2, last - 86_400, last - 1, last} {
			wantMeant(t, gps(last, cycle), floor, last)
			wantMeant(t, utc(lastUTC, cycle), floor, last)
			wantNone(t, gps(last+1, cycle), floor)
			wantNone(t, utc(lastUTC+1, cycle), floor)
			wantNone(t, gps(floor+span-1, cycle), floor)
			wantNone(t, utc(lastUTC-last+floor+span-1, cycle), floor)
		}
		wantMeant(t, gps(last+1, cycle), last-span+1, last-span+1)
		wantMeant(t, utc(lastUTC+1, cycle), last-span+1, last-span+1)
		wantNone(t, gps(0, cycle), last)
		wantNone(t, gps(last-1, cycle), last)
	}
	wantMeant(t, utc(lastUTC-1, 100), last-1, last-1)
	wantMeant(t, utc(lastUTC, 100), last-1, last)
	wantNone(t, utc(lastUTC+1, 100), last-1)
	wantNone(t, utc(lastUTC+86_400, 100), last-1)
}

// P18.1: told 1024 weeks off in UTC, which is not 1024 weeks off in GPS, where leap seconds lie between.
func TestCongruentByItsOwnScale(t *testing.T) {
	for _, x := range []struct{ sec, second, early, late int64 }{
		{at(2020, 1, 1, 0, 0, 0), 1_261_872_018, 5, 0},
		{at(2016, 12, 31, 23, 59, 59), 1_167_264_016, 6, 1},
		{at(2017, 1, 1, 0, 0, 0), 1_167_264_018, 7, 0},
		{at(2000, 2, 29, 0, 0, 0), 635_817_613, 13, 5},
		{at(1990, 1, 1, 0, 0, 0), 315_187_206, 6, 9},
	} {
		for _, cycle := range []int{0, 1024} {
			// By the seconds of GPS they would mean so many less, and so many more.
			early, eok := plainGPS(x.sec-span, false)
			late, lok := plainGPS(x.sec+span, false)
			if eok && early+span != x.second-x.early || !lok || late-span != x.second+x.late {
				t.Fatalf("%d: early %d, late %d", x.sec, early, late)
			}
			for _, floor := range []int64{max(0, x.second-span+1), max(0, x.second-100_000_000), x.second - 20, x.second} {
				wantMeant(t, utc(x.sec, cycle), floor, x.second)
				wantMeant(t, utc(x.sec-span, cycle), floor, x.second)
				wantMeant(t, utc(x.sec+span, cycle), floor, x.second)
			}
		}
	}
}

// P18.1: a window has as many leap seconds as there are UTC seconds that mean none in it.
func TestNoneAsLeapSecondsLieBetween(t *testing.T) {
	for _, x := range []struct{ floor, passed int64 }{{0, 13}, {1_000_000_000, 3}, {1_025_136_015, 3}, {1_025_136_016, 2}, {1_167_264_017, 1}, {1_167_264_018, 0}} {
		first := plainUTC(x.floor)
		sec := first.Sec
		if first.Leap {
			sec++
		}
		for _, cycle := range []int{0, 1024} {
			second := x.floor + span - 1
			for off := x.passed + 1; off <= x.passed+3; off++ {
				wantMeant(t, utc(sec+span-off, cycle), x.floor, second-(off-x.passed-1))
			}
			for off := int64(1); off <= x.passed; off++ {
				wantNone(t, utc(sec+span-off, cycle), x.floor)
				wantNone(t, utc(sec-off, cycle), x.floor)
			}
		}
	}
}
