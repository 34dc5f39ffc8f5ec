package repair

import (
	"math/rand"
	"testing"

	"remontoire/api"
)

// shapes are the scales, leap seconds and cycles of messages that may be.
func shapes() []api.Msg {
	return []api.Msg{gps(0, 0), gps(0, 1024), utc(0, 0), utc(0, 1024), utc(0, 100), leapBehind(0, 0), leapBehind(0, 1024), leapBehind(0, 100)}
}

// P18.1: at all floors where something turns, seconds about those at which something turns, in all scales and cycles, against a plain search.
func TestAgainstSearch(t *testing.T) {
	seconds := []int64{-far, far, -1, 0, 1, epoch - 1, epoch, epoch + 1, lastUTC - 1, lastUTC, lastUTC + 1, last, last + 1, afterCivil - 1, afterCivil, at(2000, 2, 29, 0, 0, 0)}
	for _, change := range changes {
		seconds = append(seconds, change-2, change-1, change, change+1, change-span-1, change+span)
	}
	for _, floor := range floors() {
		about := plainUTC(floor).Sec
		own := append([]int64{floor - 1, floor, floor + 1, floor + span - 1, floor + span, about - 14, about - 2, about - 1, about, about + 1, about + span - 14, about + span - 1, about + span}, seconds...)
		for _, m := range shapes() {
			for _, sec := range own {
				m.Sec = sec
				wantAsPlain(t, m, floor)
			}
		}
	}
}

// P18.1: drawn seconds, floors and messages against a plain search.
func TestDrawnAgainstSearch(t *testing.T) {
	r := rand.New(rand.NewSource(181))
	meant := 0
	for i := range 120_000 {
		m := shapes()[i%8]
		m.Kind, m.Next = uint8(r.Intn(256)), r.Intn(2) == 0
		m.Sec = drawnSecond(r, m)
		floor := r.Int63n(last + 1)
		if r.Intn(2) == 0 {
			floor = min(last, r.Int63n(1_300_000_000))
		}
		if wantAsPlain(t, m, floor) {
			meant++
		}
	}
	if meant < 40_000 {
		t.Errorf("only %d messages meant a second", meant)
	}
}

// drawnSecond is one of those that a message of that scale, leap second and cycle may well tell, or one of all lengths.
func drawnSecond(r *rand.Rand, m api.Msg) int64 {
	switch {
	case r.Intn(10) == 0:
		return int64(r.Uint64()) >> uint(23+r.Intn(41))
	case m.Leap && m.Cycle == 100:
		return inCentury(changes[r.Intn(len(changes))]-1, 1900+100*r.Intn(3))
	case m.Leap:
		return changes[r.Intn(len(changes))] - 1 + span*int64(r.Intn(9)-4)
	case m.UTC:
		return r.Int63n(afterCivil)
	}
	return r.Int63n(2*last) - last/2
}

// P18.1: what follows: a message that tells a second of the window means just that one, whatever whole cycles it is off.
func TestWhatFollows(t *testing.T) {
	r := rand.New(rand.NewSource(182))
	for i := range 60_000 {
		floor := drawnFloor(r, i)
		second := floor + r.Int63n(min(span, last-floor+1))
		if leap := leapSeconds[i%len(leapSeconds)]; i%3 == 0 && leap >= floor && leap-floor < span {
			second = leap
		}
		off := span * (r.Int63n(3000) - 1500)
		wantMeant(t, gps(second+off, 1024*(i%2)), floor, second)
		m := plainUTC(second)
		wantMeant(t, m, floor, second)
		m.Cycle = 100
		wantMeant(t, m, floor, second)
		m.Sec, m.Cycle = m.Sec+off, 1024*(i%2)
		wantMeant(t, m, floor, second)
	}
}

// drawnFloor is one of all, or, each other time, one that is not far ahead of or behind a leap second.
func drawnFloor(r *rand.Rand, i int) int64 {
	if i%2 == 0 {
		return r.Int63n(last + 1)
	}
	return max(0, leapSeconds[i/2%len(leapSeconds)]+r.Int63n(5)-3-span*int64(r.Intn(2)))
}

// P18.1: while the floor rises second by second over leap seconds, what is told is never below it, and stays till the floor is beyond it.
func TestFloorRises(t *testing.T) {
	for i, leap := range leapSeconds {
		for _, m := range []api.Msg{gps(leap, 0), utc(changes[i]-1, 1024), utc(changes[i], 0), leapBehind(changes[i]-1, 0), utc(changes[i]-1, 100)} {
			for floor := max(0, leap-30); floor < leap+30; floor++ {
				wantAsPlain(t, m, floor)
			}
		}
	}
}
