package repair

import (
	"math"
	"testing"

	"remontoire/api"
)

// messages are one of each scale and cycle that may be, and of leap seconds, that mean a second by the floor 1167000000.
func messages() []api.Msg {
	return []api.Msg{
		gps(1_167_264_017, 0), gps(547_948_817, 1024), utc(3_692_217_600, 0), utc(3_072_902_400, 1024), utc(3_692_217_600, 100),
		leapBehind(3_692_217_599, 0), leapBehind(3_072_902_399, 1024), leapBehind(3_692_217_599, 100),
	}
}

// wrongFloors are those that may not be.
var wrongFloors = []int64{least, least + 1, least + span, -far, -span, -2, -1, last + 1, last + 2, last + span, epoch + last, far, api.MaxGPS, most - span, most - 1, most}

// wrongCycles are those that may not be.
var wrongCycles = []int{math.MinInt, math.MinInt + 1, -1024, -100, -2, -1, 1, 2, 10, 99, 101, 200, 400, 1000, 1023, 1025, 2048, 1 << 32, 1<<32 + 100, 1<<32 + 1024, 1 << 62, math.MaxInt - 1, math.MaxInt}

// tooFar are seconds that are too far off.
var tooFar = []int64{least, least + 1, least + span, -2 * far, -far - span, -far - 2, -far - 1, far + 1, far + 2, far + span, 2 * far, api.MaxGPS, most - span, most - 1, most}

// P18.1, P1: floors that may not be.
func TestFloorsRefused(t *testing.T) {
	for _, m := range messages() {
		if _, e := GPS(m, 1_167_000_000); e != api.OK {
			t.Errorf("GPS of %+v: %d", m, e)
		}
		for _, floor := range wrongFloors {
			want(t, m, floor, 0, api.ErrArg)
		}
	}
}

// P18.1: the bounds of the floors themselves.
func TestFloorsAtTheBounds(t *testing.T) {
	for _, cycle := range []int{0, 1024} {
		wantMeant(t, gps(0, cycle), 0, 0)
		wantMeant(t, gps(0, cycle), 1, span)
		wantMeant(t, gps(last, cycle), last, last)
		wantMeant(t, gps(last, cycle), last-1, last)
		wantMeant(t, gps(last-1, cycle), last-1, last-1)
		wantNone(t, gps(last-1, cycle), last)
		wantMeant(t, utc(epoch, cycle), 0, 0)
		wantMeant(t, utc(lastUTC, cycle), last, last)
		wantMeant(t, utc(lastUTC-1, cycle), last-1, last-1)
		wantNone(t, utc(lastUTC-1, cycle), last)
	}
	wantMeant(t, utc(epoch, 100), 0, 0)
	wantNone(t, utc(epoch, 100), 1)
	wantMeant(t, utc(lastUTC, 100), last, last)
	wantNone(t, utc(lastUTC-1, 100), last)
}

// P18.1, P1: cycles that may not be, in both scales, with and without a leap second.
func TestCyclesRefused(t *testing.T) {
	for _, m := range messages() {
		for _, cycle := range wrongCycles {
			m.Cycle = cycle
			want(t, m, 1_167_000_000, 0, api.ErrArg)
		}
	}
}

// P18.1, P1: what may be of UTC alone: a cycle of 100, and a leap second.
func TestOfUTCAlone(t *testing.T) {
	for _, sec := range []int64{-far, -1, 0, 5, 1_167_264_016, 1_167_264_017, 3_692_217_599, last, far} {
		want(t, gps(sec, 100), 0, 0, api.ErrArg)
		want(t, gps(sec, 100), 1_167_000_000, 0, api.ErrArg)
		for _, cycle := range []int{0, 100, 1024} {
			want(t, api.Msg{Sec: sec, Leap: true, Cycle: cycle}, 0, 0, api.ErrArg)
			want(t, api.Msg{Sec: sec, Leap: true, Cycle: cycle}, 1_167_000_000, 0, api.ErrArg)
		}
	}
	wantMeant(t, gps(1_167_264_017, 0), 1_167_000_000, 1_167_264_017)
	wantMeant(t, utc(3_692_217_600, 100), 1_167_000_000, 1_167_264_018)
	wantMeant(t, leapBehind(3_692_217_599, 100), 1_167_000_000, 1_167_264_017)
}

// P18.1, P1: seconds that are too far off; the bounds themselves may be.
func TestSecondsRefused(t *testing.T) {
	for _, m := range messages() {
		for _, floor := range []int64{0, 1_167_000_000, last} {
			for _, sec := range tooFar {
				m.Sec = sec
				want(t, m, floor, 0, api.ErrOver)
			}
			for _, sec := range []int64{-far, -far + 1, far - 1, far} {
				m.Sec = sec
				wantAsPlain(t, m, floor)
			}
		}
	}
	for _, sec := range []int64{-far, -far + 1, far - 1, far} {
		wantNone(t, utc(sec, 100), 1_167_000_000)
		wantNone(t, leapBehind(sec, 0), 1_167_000_000)
	}
}

// P18.1, P1: what may not be is told ahead of a second that is too far off, and of one that there is none of.
func TestArgumentsAheadOfAll(t *testing.T) {
	for _, sec := range append([]int64{-far, -1, 0, 5, far}, tooFar...) {
		for _, m := range messages() {
			m.Sec = sec
			for _, floor := range wrongFloors {
				want(t, m, floor, 0, api.ErrArg)
			}
			for _, cycle := range wrongCycles {
				m.Cycle = cycle
				want(t, m, 0, 0, api.ErrArg)
				want(t, m, -1, 0, api.ErrArg)
				want(t, m, last, 0, api.ErrArg)
			}
		}
		for _, floor := range []int64{-1, 0, last, last + 1} {
			want(t, gps(sec, 100), floor, 0, api.ErrArg)
			want(t, api.Msg{Sec: sec, Leap: true}, floor, 0, api.ErrArg)
			want(t, api.Msg{Sec: sec, Leap: true, Cycle: 1024}, floor, 0, api.ErrArg)
			want(t, api.Msg{Sec: sec, Leap: true, Cycle: 100}, floor, 0, api.ErrArg)
		}
	}
}

// P18.1, P1: a second that is too far off is told ahead of none being there.
func TestTooFarAheadOfNone(t *testing.T) {
	for _, x := range []struct {
		m   api.Msg
		sec int64
	}{
		{gps(far, 0), far + 1}, {utc(far, 1024), far + 1}, {utc(far, 100), far + 1}, {utc(-far, 100), -far - 1}, {leapBehind(far, 0), far + 1}, {leapBehind(-far, 1024), -far - 1}, {leapBehind(far, 100), far + 1},
	} {
		wantNone(t, x.m, last)
		x.m.Sec = x.sec
		want(t, x.m, last, 0, api.ErrOver)
	}
}
