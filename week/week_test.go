package week

import (
	"math"
	"math/big"
	"math/rand"
	"testing"

	"remontoire/api"
)

const (
	last  int64 = 6_000_000_000 // the last GPS second that may be
	far   int64 = 1 << 60
	most  int64 = math.MaxInt64
	least int64 = math.MinInt64
)

// beyond are GPS seconds that may not be.
func beyond() []int64 {
	return []int64{-1, -2, -604_799, -604_800, -604_801, -1 << 32, -far, least + 604_800, least + 1, least, last + 1, last + 2, last + 604_800, 1 << 33, far, api.MaxGPS, most - 604_800, most - 1, most}
}

// mayNot are numbers of weeks that Near refuses.
func mayNot() []int64 {
	return []int64{0, -1, -2, -1024, -far, least, least + 1, 1025, 1026, 2048, 9920, 1 << 32, 1 << 42, far, most - 1, most}
}

// floors are those at which something turns, and drawn ones; all of them may be.
func floors(r *rand.Rand) []int64 {
	out := []int64{0, 1, 2, 604_799, 604_800, 604_801, 619_315_199, 619_315_200, 619_315_201, 1_167_264_017, 5_999_615_999, 5_999_616_000, last - 1, last}
	for range 20 {
		out = append(out, r.Int63n(last+1))
	}
	return out
}

// asked are GPS seconds that Near looks at: those at which something turns, of the floor too, and drawn ones of all lengths.
func asked(r *rand.Rand, floor, span int64) []int64 {
	out := []int64{-far, -far + 1, -far + span, -last, -619_315_201, -619_315_200, -604_801, -604_800, -604_799, -2, -1, 0, 1, 2, 604_799, 604_800, 604_801, 619_315_199, 619_315_200, last - 1, last, last + 1, far - span, far - 1, far}
	for step := int64(-2); step <= 2; step++ {
		out = append(out, floor+step, floor-span+step, floor+span+step, floor-3*span+step, floor+3*span+step)
	}
	for range 20 {
		out = append(out, int64(r.Uint64())>>uint(3+r.Intn(60)))
	}
	return out
}

// isCongruent is whether the difference of two seconds is a multiple of a span, by numbers without a bound.
func isCongruent(a, b, span int64) bool {
	difference := new(big.Int).Sub(big.NewInt(a), big.NewInt(b))
	return new(big.Int).Rem(difference, big.NewInt(span)).Sign() == 0
}

func wantSplit(t *testing.T, gps, week, tow int64, err api.Errno) {
	t.Helper()
	if w, s, e := Split(gps); w != week || s != tow || e != err {
		t.Errorf("Split of %d: got %d, %d, %d, want %d, %d, %d", gps, w, s, e, week, tow, err)
	}
}

func wantJoin(t *testing.T, week, tow, want int64, err api.Errno) {
	t.Helper()
	if got, e := Join(week, tow); got != want || e != err {
		t.Errorf("Join of %d, %d: got %d, %d, want %d, %d", week, tow, got, e, want, err)
	}
}

func wantNear(t *testing.T, gps, weeks, floor, want int64, err api.Errno) {
	t.Helper()
	if got, e := Near(gps, weeks, floor); got != want || e != err {
		t.Errorf("Near of %d, %d weeks, floor %d: got %d, %d, want %d, %d", gps, weeks, floor, got, e, want, err)
	}
}

// known are GPS seconds, their weeks, and their seconds of those.
func known() [][3]int64 {
	return [][3]int64{
		{0, 0, 0}, {1, 0, 1}, {86_400, 0, 86_400}, {604_798, 0, 604_798}, {604_799, 0, 604_799}, {604_800, 1, 0}, {604_801, 1, 1}, {1_209_599, 1, 604_799}, {1_209_600, 2, 0},
		{619_315_199, 1023, 604_799}, {619_315_200, 1024, 0}, // the first cycle ends
		{1_000_000_000, 1653, 265_600}, {1_167_264_017, 1930, 17},
		{1_238_630_399, 2047, 604_799}, {1_238_630_400, 2048, 0}, // the second one ends
		{4_294_967_296, 7101, 282_496}, {5_999_615_999, 9919, 604_799}, {5_999_616_000, 9920, 0},
		{5_999_999_999, 9920, 383_999}, {6_000_000_000, 9920, 384_000},
	}
}

// P5.1
func TestSplitAndJoinKnown(t *testing.T) {
	for _, x := range known() {
		wantSplit(t, x[0], x[1], x[2], api.OK)
		wantJoin(t, x[1], x[2], x[0], api.OK)
	}
}

// P5.1: about the first second of each week, which is counted up to without a product or a division.
func TestSplitAndJoinAboutWeeks(t *testing.T) {
	first := int64(604_800)
	for week := int64(1); first <= last; week++ {
		wantSplit(t, first-1, week-1, 604_799, api.OK)
		wantSplit(t, first, week, 0, api.OK)
		wantSplit(t, first+1, week, 1, api.OK)
		wantJoin(t, week-1, 604_799, first-1, api.OK)
		wantJoin(t, week, 0, first, api.OK)
		wantJoin(t, week, 1, first+1, api.OK)
		first += 604_800
	}
	if first != 6_000_220_800 {
		t.Errorf("the weeks end at %d", first)
	}
}

// P5.1, P1
func TestSplitRefuses(t *testing.T) {
	for _, gps := range beyond() {
		wantSplit(t, gps, 0, 0, api.ErrOver)
	}
}

// P5.1, P1: what is no week or no second of one is told ahead of a second that may not be.
func TestJoinRefusesArguments(t *testing.T) {
	for _, week := range []int64{-1, -2, -1024, -9921, -1 << 32, -far, least / 604_800, least/604_800 - 1, least + 1, least} {
		for _, tow := range []int64{least, -1, 0, 1, 604_799, 604_800, 1_209_600, 1 << 32, last, most} {
			wantJoin(t, week, tow, 0, api.ErrArg)
		}
	}
	for _, tow := range []int64{least, least + 1, -1 << 32, -604_800, -1, 604_800, 604_801, 1_209_600, 1 << 32, last, most - 1, most} {
		for _, week := range []int64{0, 1, 1024, 9919, 9920, 9921, 9922, 1 << 32, most / 604_800, most/604_800 + 1, most - 1, most} {
			wantJoin(t, week, tow, 0, api.ErrArg)
		}
	}
}

// P5.1, P1: also such weeks whose second, cut to 64 bits, would be one that may be.
func TestJoinRefusesBeyond(t *testing.T) {
	wantJoin(t, 9920, 384_000, last, api.OK)
	for _, tow := range []int64{384_001, 384_002, 604_798, 604_799} {
		wantJoin(t, 9920, tow, 0, api.ErrOver)
	}
	for _, week := range []int64{
		9921, 9922, 10_240, 1 << 32, most / 604_800, most/604_800 + 1, most/302_400 + 1, 1 << 55, 1 << 56, 1 << 57, 1<<57 + 1, 1 << 58, 1<<58 + 1930, 1 << 60, 1 << 62, 1<<62 + 1, most - 1, most,
	} {
		for _, tow := range []int64{0, 1, 17, 384_000, 604_799} {
			wantJoin(t, week, tow, 0, api.ErrOver)
		}
	}
}

// P5.1: a week and its second make the second again; the second of the week is less than a week.
func TestSplitAndJoinAreEachOthers(t *testing.T) {
	r := rand.New(rand.NewSource(5))
	for range 100_000 {
		gps := r.Int63n(last + 1)
		week, tow, e := Split(gps)
		if e != api.OK || week < 0 || tow < 0 || tow > 604_799 {
			t.Fatalf("Split of %d: %d, %d, %d", gps, week, tow, e)
		}
		wantJoin(t, week, tow, gps, api.OK)
		week, tow = r.Int63n(9920), r.Int63n(604_800)
		gps, e = Join(week, tow)
		if e != api.OK {
			t.Fatalf("Join of %d, %d: %d", week, tow, e)
		}
		wantSplit(t, gps, week, tow, api.OK)
	}
}

// P5.2
func TestNearKnown(t *testing.T) {
	for _, x := range [][4]int64{
		{5, 1024, 10, 619_315_205}, {5, 1024, 5, 5}, {5, 1024, 4, 5}, {5, 1024, 6, 619_315_205}, {5, 1024, 0, 5}, {0, 1024, 0, 0},
		{-1, 1024, 0, 619_315_199}, {-619_315_200, 1024, 0, 0}, {-619_315_201, 1024, 0, 619_315_199}, {-619_315_199, 1024, 0, 1},
		{619_315_199, 1024, 0, 619_315_199}, {619_315_200, 1024, 0, 0}, {619_315_200, 1024, 1, 619_315_200}, {619_315_201, 1024, 0, 1},
		{547_948_817, 1024, 1_000_000_000, 1_167_264_017}, // 2016-12-31, told 1024 weeks too early
		{1_786_579_217, 1024, 1_000_000_000, 1_167_264_017},
		{0, 1, 0, 0}, {0, 1, 1, 604_800}, {604_799, 1, 604_800, 1_209_599}, {604_800, 1, 604_800, 604_800}, {604_801, 1, 604_800, 604_801}, {-1, 1, 0, 604_799},
		{0, 2, 604_800, 1_209_600}, {604_800, 2, 604_800, 604_800}, {0, 1023, 1, 618_710_400}, {100, 256, 1_000_000_000, 1_083_801_700},
		{last, 1024, last, last}, {last, 1, last, last}, {last - 1, 1024, last - 1, last - 1}, {last, 1024, last - 1, last}, {0, 1024, 5_000_000_000, 5_573_836_800},
		{last - 619_315_200, 1024, last, last}, {last + 619_315_200, 1024, last, last}, {last - 604_800, 1, last, last}, {last + 604_800, 1, last, last},
		{384_000, 1, last, last}, {last - 619_315_199, 1024, last - 619_315_199, last - 619_315_199},
		{far, 1, 0, 568_576}, {-far, 1, 0, 36_224}, {far, 1024, 0, 512_229_376}, {-far, 1024, 0, 107_085_824}, {far - 1, 1024, 0, 512_229_375}, {-far + 1, 1024, 0, 107_085_825},
		{far, 1024, 1_000_000_000, 1_131_544_576}, {-far, 1024, 1_000_000_000, 1_345_716_224}, {far, 1023, 5_000_000_000, 5_261_723_776},
	} {
		wantNear(t, x[0], x[1], x[2], x[3], api.OK)
	}
}

// wantNearest asks by what the answer is: congruent, not below the floor, and the least such; if that one may not be, ErrOver.
func wantNearest(t *testing.T, gps, weeks, floor int64) {
	t.Helper()
	span := weeks * 604_800
	got, e := Near(gps, weeks, floor)
	if e == api.OK {
		if got < floor || got-span >= floor || got > last || !isCongruent(got, gps, span) {
			t.Errorf("Near of %d, %d weeks, floor %d: got %d", gps, weeks, floor, got)
		}
		return
	}
	// It is refused just where the least one that is congruent lies behind the last one that may be.
	over := new(big.Int).Mod(big.NewInt(gps-floor), big.NewInt(span)).Int64() > last-floor
	if got != 0 || e != api.ErrOver || !over {
		t.Errorf("Near of %d, %d weeks, floor %d: got %d, %d", gps, weeks, floor, got, e)
	}
}

// P5.2
func TestNearIsTheLeast(t *testing.T) {
	r := rand.New(rand.NewSource(6))
	for _, weeks := range []int64{1, 2, 3, 7, 52, 256, 512, 1000, 1022, 1023, 1024} {
		for _, floor := range floors(r) {
			for _, gps := range asked(r, floor, weeks*604_800) {
				wantNearest(t, gps, weeks, floor)
			}
		}
	}
}

// P5.2: weeks of all numbers that may be.
func TestNearOfAllWeeks(t *testing.T) {
	r := rand.New(rand.NewSource(7))
	for weeks := int64(1); weeks <= 1024; weeks++ {
		span := weeks * 604_800
		wantNear(t, 0, weeks, 1, span, api.OK)
		wantNear(t, 0, weeks, span, span, api.OK)
		wantNear(t, -1, weeks, 0, span-1, api.OK)
		wantNear(t, span, weeks, 0, 0, api.OK)
		for range 20 {
			wantNearest(t, r.Int63n(2*last)-last, weeks, r.Int63n(last+1))
		}
	}
}

// P5.2: while the floor rises second by second, the answer stays till the floor is beyond it, and then rises by the span.
func TestNearRisesWithTheFloor(t *testing.T) {
	const gps, start = int64(17), int64(604_800_000)
	want := start + 17
	for floor := start; floor < start+2_000_000; floor++ {
		if floor > want {
			want += 604_800
		}
		if got, e := Near(gps, 1, floor); got != want || e != api.OK {
			t.Fatalf("Near of %d, 1 week, floor %d: got %d, %d, want %d", gps, floor, got, e, want)
		}
	}
}

// P5.2, P1: the bounds themselves may be, what is beyond them may not.
func TestNearAtTheBounds(t *testing.T) {
	for _, floor := range []int64{0, 10, 5_000_000_000} {
		for _, gps := range []int64{-far, far} {
			wantNearest(t, gps, 1, floor)
			wantNearest(t, gps, 1024, floor)
			if _, e := Near(gps, 1024, floor); e != api.OK {
				t.Errorf("Near of %d, floor %d: %d", gps, floor, e)
			}
		}
		for _, gps := range []int64{least, least + 1, least + 604_800, -far - 604_800, -far - 2, -far - 1, far + 1, far + 2, far + 604_800, api.MaxGPS, most - 604_800, most - 1, most} {
			wantNear(t, gps, 1, floor, 0, api.ErrOver)
			wantNear(t, gps, 1024, floor, 0, api.ErrOver)
		}
	}
}

// P5.2, P1: the least second that is congruent lies behind the last one that may be.
func TestNearRefusesBeyond(t *testing.T) {
	for _, x := range [][3]int64{
		{last + 1, 1024, last}, {last + 1, 1, last}, {last - 1, 1024, last}, {last - 1, 1, last}, {0, 1024, last}, {0, 1, last}, {-1, 1, last}, {383_999, 1, last}, {384_001, 1, last}, {384_001, 1, last - 1},
		{last - 2, 1024, last - 1}, {last + 1, 1024, last - 1}, {last - 619_315_199, 1024, last}, {last - 619_315_201, 1024, last}, {last - 604_799, 1, last}, {last - 604_801, 1, last},
		{last - 619_315_199, 1024, last - 619_315_198}, {0, 1024, 5_600_000_000}, {far, 1024, last}, {-far, 1024, last}, {far, 1, last}, {-far, 1, last},
	} {
		wantNear(t, x[0], x[1], x[2], 0, api.ErrOver)
	}
}

// P5.2, P1: of weeks and floors that may not be ErrArg is told, also where gps may not be either, or what would be told.
func TestNearRefusesArguments(t *testing.T) {
	seconds := []int64{least, -far - 1, -far, -1, 0, 5, last, last + 1, far, far + 1, most}
	for _, gps := range seconds {
		for _, weeks := range mayNot() {
			for _, floor := range []int64{least, -1, 0, 1, last, last + 1, most} {
				wantNear(t, gps, weeks, floor, 0, api.ErrArg)
			}
		}
		for _, floor := range beyond() {
			for _, weeks := range []int64{1, 2, 1023, 1024} {
				wantNear(t, gps, weeks, floor, 0, api.ErrArg)
			}
		}
	}
}
