package repair

import (
	"math"
	"testing"
	"time"

	"remontoire/api"
)

// Numbers written out, so that nothing of the program is asked for them.
const (
	last       int64 = 6_000_000_000 // the last GPS second that may be
	lastUTC    int64 = 8_524_953_582 // its UTC second
	epoch      int64 = 2_524_953_600 // the UTC second of the GPS second 0
	span       int64 = 619_315_200   // 1024 weeks
	far        int64 = 1 << 40
	afterCivil int64 = 9_467_107_200 // the first UTC second behind those of layer 3
	most       int64 = math.MaxInt64
	least      int64 = math.MinInt64
)

// changes are the UTC seconds behind the leap seconds, written out likewise.
var changes = [18]int64{
	2_571_782_400, 2_603_318_400, 2_634_854_400, 2_698_012_800, 2_776_982_400, 2_840_140_800, 2_871_676_800, 2_918_937_600, 2_950_473_600,
	2_982_009_600, 3_029_443_200, 3_076_704_000, 3_124_137_600, 3_345_062_400, 3_439_756_800, 3_550_089_600, 3_644_697_600, 3_692_217_600,
}

// leapSeconds are the leap seconds as GPS seconds.
var leapSeconds = [18]int64{
	46_828_800, 78_364_801, 109_900_802, 173_059_203, 252_028_804, 315_187_205, 346_723_206, 393_984_007, 425_520_008,
	457_056_009, 504_489_610, 551_750_411, 599_184_012, 820_108_813, 914_803_214, 1_025_136_015, 1_119_744_016, 1_167_264_017,
}

// gps is a message that tells a GPS second.
func gps(sec int64, cycle int) api.Msg { return api.Msg{Sec: sec, Cycle: cycle} }

// utc is a message that tells a UTC second.
func utc(sec int64, cycle int) api.Msg { return api.Msg{UTC: true, Sec: sec, Cycle: cycle} }

// leapBehind is a message that tells the leap second behind a UTC second.
func leapBehind(sec int64, cycle int) api.Msg {
	return api.Msg{UTC: true, Sec: sec, Leap: true, Cycle: cycle}
}

// at is the UTC second of a date and a time by the library's calendar.
func at(year, month, day, hour, minute, second int) int64 {
	return time.Date(year, time.Month(month), day, hour, minute, second, 0, time.UTC).Unix() - time.Date(1900, 1, 1, 0, 0, 0, 0, time.UTC).Unix()
}

// date is the date and the time of a UTC second by the library's calendar.
func date(sec int64) time.Time {
	return time.Unix(sec+time.Date(1900, 1, 1, 0, 0, 0, 0, time.UTC).Unix(), 0).UTC()
}

// inCentury is the UTC second of the same date and time in the year of that century that has the same last two digits.
func inCentury(sec int64, century int) int64 {
	t := date(sec)
	return at(century+t.Year()%100, int(t.Month()), t.Day(), t.Hour(), t.Minute(), t.Second())
}

// plainGPS is the GPS second of a UTC second, or of the leap second behind it, by the two lists alone.
func plainGPS(sec int64, leap bool) (int64, bool) {
	passed := int64(0)
	for i, change := range changes {
		if leap && change == sec+1 {
			return leapSeconds[i], true
		}
		if change <= sec {
			passed++
		}
	}
	told := sec - epoch + passed
	return told, !leap && sec >= epoch && told <= last
}

// plainUTC is the message of a GPS second as one of UTC, by the two lists alone.
func plainUTC(second int64) api.Msg {
	passed := int64(0)
	for i, leap := range leapSeconds {
		if leap == second {
			return leapBehind(changes[i]-1, 0)
		}
		if leap < second {
			passed++
		}
	}
	return utc(second+epoch-passed, 0)
}

// plainSeconds are all seconds that a message may mean: its scale's, far ahead of the first one and far behind the last one.
func plainSeconds(m api.Msg) []int64 {
	var told []int64
	if m.Cycle != 100 {
		for sec := m.Sec%span - 2*span; sec <= epoch+last+2*span; sec += span {
			told = append(told, sec)
		}
		return told
	}
	if m.Sec < 0 || m.Sec >= afterCivil {
		return nil
	}
	t := date(m.Sec)
	for century := 1900; century < 2200; century += 100 {
		// What is no date the library makes one of another month.
		if same := inCentury(m.Sec, century); date(same).Month() == t.Month() {
			told = append(told, same)
		}
	}
	return told
}

// plain is what a message means by a floor, looked for among all seconds that it may mean; how many lie in the window, and the GPS second of the first one.
func plain(m api.Msg, floor int64) (count int, told int64) {
	for _, sec := range plainSeconds(m) {
		second, ok := sec, sec >= 0 && sec <= last
		if m.UTC {
			second, ok = plainGPS(sec, m.Leap)
		}
		if !ok || second < floor || second-floor > span-1 {
			continue
		}
		if count == 0 {
			told = second
		}
		count++
	}
	return count, told
}

func want(t *testing.T, m api.Msg, floor, told int64, err api.Errno) {
	t.Helper()
	if got, e := GPS(m, floor); got != told || e != err {
		t.Errorf("GPS of %+v, floor %d: got %d, %d, want %d, %d", m, floor, got, e, told, err)
	}
}

// wantMeant wants one GPS second.
func wantMeant(t *testing.T, m api.Msg, floor, told int64) {
	t.Helper()
	want(t, m, floor, told, api.OK)
}

// wantNone wants none, each time for the message's own second.
func wantNone(t *testing.T, m api.Msg, floor int64) {
	t.Helper()
	want(t, m, floor, 0, api.ErrNone)
}

// wantAsPlain wants what a plain search finds, which is one second at most; it tells whether there is one.
func wantAsPlain(t *testing.T, m api.Msg, floor int64) bool {
	t.Helper()
	count, told := plain(m, floor)
	switch count {
	case 0:
		wantNone(t, m, floor)
	case 1:
		wantMeant(t, m, floor, told)
	default:
		t.Errorf("%+v, floor %d: %d seconds in the window", m, floor, count)
	}
	return count == 1
}

// floors are those at which something turns.
func floors() []int64 {
	told := []int64{0, 1, 2, 12, 13, 14, span - 1, span, span + 1, 2*span - 1, 2 * span, 1_000_000_000, last - span - 1, last - span, last - span + 1, last - 2, last - 1, last}
	for _, leap := range leapSeconds {
		told = append(told, leap-1, leap, leap+1, leap+2)
		if leap >= span {
			told = append(told, leap-span, leap-span+1, leap-span+2)
		}
	}
	for _, year := range []int{1981, 1990, 1999, 2000, 2001, 2020, 2080, 2081, 2099, 2100, 2101, 2169} {
		first, _ := plainGPS(at(year, 1, 1, 0, 0, 0), false)
		told = append(told, first-1, first, first+1)
	}
	return told
}
