package leap

import (
	"math"
	"math/rand"
	"slices"
	"testing"

	"remontoire/api"
)

// lastSec is the last UTC second whose GPS second may be: behind the last line GPS is 18 seconds more.
const (
	lastSec int64 = 8_524_953_582
	most    int64 = math.MaxInt64
	least   int64 = math.MinInt64
)

// leapSeconds are the leap seconds as GPS seconds: written out, so that nothing of the program is asked for them.
func leapSeconds() []int64 {
	return []int64{
		46_828_800, 78_364_801, 109_900_802, 173_059_203, 252_028_804, 315_187_205, 346_723_206, 393_984_007, 425_520_008,
		457_056_009, 504_489_610, 551_750_411, 599_184_012, 820_108_813, 914_803_214, 1_025_136_015, 1_119_744_016, 1_167_264_017,
	}
}

// changes are the UTC seconds behind them, written out likewise.
func changes() []int64 {
	return []int64{
		2_571_782_400, 2_603_318_400, 2_634_854_400, 2_698_012_800, 2_776_982_400, 2_840_140_800, 2_871_676_800, 2_918_937_600, 2_950_473_600,
		2_982_009_600, 3_029_443_200, 3_076_704_000, 3_124_137_600, 3_345_062_400, 3_439_756_800, 3_550_089_600, 3_644_697_600, 3_692_217_600,
	}
}

// lines are the table by both lists.
func lines() []api.Leap {
	out := []api.Leap{{UTC: 2_524_953_600, GPS: 0, Offset: 0}}
	for i, l := range leapSeconds() {
		out = append(out, api.Leap{UTC: changes()[i], GPS: l + 1, Offset: int64(i) + 1})
	}
	return out
}

// passed is how many leap seconds are behind a GPS second.
func passed(gps int64) int64 {
	n := int64(0)
	for _, l := range leapSeconds() {
		if l < gps {
			n++
		}
	}
	return n
}

// around are the seconds from three ahead of one till three behind it.
func around(second int64) []int64 {
	return []int64{second - 3, second - 2, second - 1, second, second + 1, second + 2, second + 3}
}

// mayBe is those GPS seconds at which something turns, and drawn ones; all of them may be.
func mayBe(count int) []int64 {
	out := []int64{0, 1, 2, 3, 86_399, 86_400, 604_800, 1_000_000_000, 5_999_999_998, 5_999_999_999, 6_000_000_000}
	for _, l := range leapSeconds() {
		out = append(out, around(l)...)
	}
	r := rand.New(rand.NewSource(4))
	for range count {
		out = append(out, r.Int63n(6_000_000_001), r.Int63n(1_200_000_000))
	}
	return out
}

// beyond are GPS seconds that may not be.
func beyond() []int64 {
	return []int64{-1, -2, -18, -86_400, -1 << 32, least, least + 1, least + api.Epoch, 6_000_000_001, 6_000_000_002, 6_000_000_018, 1 << 33, 1 << 40, api.MaxGPS, most - api.Epoch, most - 18, most - 1, most}
}

func wantOffset(t *testing.T, gps, want int64, err api.Errno) {
	t.Helper()
	if got, e := Offset(gps); got != want || e != err {
		t.Errorf("Offset of %d: got %d, %d, want %d, %d", gps, got, e, want, err)
	}
}

func wantUTC(t *testing.T, gps, want int64, leap bool, err api.Errno) {
	t.Helper()
	if got, l, e := UTC(gps); got != want || l != leap || e != err {
		t.Errorf("UTC of %d: got %d, %v, %d, want %d, %v, %d", gps, got, l, e, want, leap, err)
	}
}

func wantGPS(t *testing.T, sec int64, leap bool, want int64, err api.Errno) {
	t.Helper()
	if got, e := GPS(sec, leap); got != want || e != err {
		t.Errorf("GPS of %d, %v: got %d, %d, want %d, %d", sec, leap, got, e, want, err)
	}
}

func wantNext(t *testing.T, gps, want int64, is bool) {
	t.Helper()
	if got, ok := Next(gps); got != want || ok != is {
		t.Errorf("Next of %d: got %d, %v, want %d, %v", gps, got, ok, want, is)
	}
}

// P4.1
func TestTableKnown(t *testing.T) {
	if got := Table(); !slices.Equal(got, lines()) {
		t.Errorf("Table: got %v, want %v", got, lines())
	}
}

// P4.1: what was told may be written over, and written behind.
func TestTableIsTheCallers(t *testing.T) {
	told := Table()
	for i := range told {
		told[i] = api.Leap{UTC: -1, GPS: 7, Offset: 99}
	}
	_ = append(told[:0], make([]api.Leap, cap(told))...)
	if got := Table(); !slices.Equal(got, lines()) {
		t.Errorf("Table behind one that was written over: got %v", got)
	}
	wantOffset(t, 1_167_264_018, 18, api.OK)
	wantUTC(t, 1_167_264_017, 3_692_217_600, true, api.OK)
	wantGPS(t, 3_692_217_600, true, 1_167_264_017, api.OK)
	wantNext(t, 0, 46_828_801, true)
}

// P4.1
func TestOffsetKnown(t *testing.T) {
	for _, x := range [][2]int64{
		{0, 0}, {1, 0}, {46_828_799, 0}, {46_828_800, 0}, {46_828_801, 1}, {46_828_802, 1}, {78_364_801, 1}, {78_364_802, 2},
		{599_184_012, 12}, {599_184_013, 13}, {600_000_000, 13}, {820_108_813, 13}, {820_108_814, 14}, {1_000_000_000, 15},
		{1_167_264_016, 17}, {1_167_264_017, 17}, {1_167_264_018, 18}, {1_400_000_000, 18}, {5_999_999_999, 18}, {6_000_000_000, 18},
	} {
		wantOffset(t, x[0], x[1], api.OK)
	}
}

// P4.1: about each line, its first second has its offset, and the two ahead the one less.
func TestOffsetAboutLines(t *testing.T) {
	for _, l := range lines()[1:] {
		for step, want := range map[int64]int64{-2: l.Offset - 1, -1: l.Offset - 1, 0: l.Offset, 1: l.Offset} {
			wantOffset(t, l.GPS+step, want, api.OK)
		}
	}
	for _, gps := range mayBe(2_000) {
		wantOffset(t, gps, passed(gps), api.OK)
	}
}

// P4.1
func TestUTCKnown(t *testing.T) {
	for _, x := range []struct {
		gps, sec int64
		leap     bool
	}{
		{0, 2_524_953_600, false}, {1, 2_524_953_601, false}, {86_400, 2_525_040_000, false},
		{46_828_799, 2_571_782_399, false}, {46_828_800, 2_571_782_400, true}, {46_828_801, 2_571_782_400, false}, {46_828_802, 2_571_782_401, false},
		{630_720_013, 3_155_673_600, false}, // 2000-01-01
		{1_167_264_015, 3_692_217_598, false}, {1_167_264_016, 3_692_217_599, false}, {1_167_264_017, 3_692_217_600, true}, {1_167_264_018, 3_692_217_600, false}, {1_167_264_019, 3_692_217_601, false},
		{1_770_013_714, 1 << 32, false}, // 2036-02-07 06:28:16: the next era begins
		{5_999_999_999, lastSec - 1, false}, {6_000_000_000, lastSec, false},
	} {
		wantUTC(t, x.gps, x.sec, x.leap, api.OK)
	}
}

// P4.1: about each line, the second just ahead of its GPS is a leap second, with the UTC second of the one behind.
func TestUTCAboutLines(t *testing.T) {
	for _, l := range lines()[1:] {
		wantUTC(t, l.GPS-3, l.UTC-2, false, api.OK)
		wantUTC(t, l.GPS-2, l.UTC-1, false, api.OK)
		wantUTC(t, l.GPS-1, l.UTC, true, api.OK)
		wantUTC(t, l.GPS, l.UTC, false, api.OK)
		wantUTC(t, l.GPS+1, l.UTC+1, false, api.OK)
	}
	for _, gps := range mayBe(2_000) {
		wantUTC(t, gps, 2_524_953_600+gps-passed(gps), slices.Contains(leapSeconds(), gps), api.OK)
	}
}

// P4.1, P1
func TestOffsetAndUTCRefuse(t *testing.T) {
	for _, gps := range beyond() {
		wantOffset(t, gps, 0, api.ErrOver)
		wantUTC(t, gps, 0, false, api.ErrOver)
	}
}

// P4.2
func TestGPSKnown(t *testing.T) {
	for _, x := range [][2]int64{
		{2_524_953_600, 0}, {2_524_953_601, 1}, {2_571_782_399, 46_828_799}, {2_571_782_400, 46_828_801}, {2_571_782_401, 46_828_802},
		{3_155_673_600, 630_720_013}, {3_692_217_599, 1_167_264_016}, {3_692_217_600, 1_167_264_018}, {3_692_217_601, 1_167_264_019},
		{1 << 32, 1_770_013_714}, {lastSec - 1, 5_999_999_999}, {lastSec, 6_000_000_000},
	} {
		wantGPS(t, x[0], false, x[1], api.OK)
	}
}

// P4.2: a line's UTC second has two GPS seconds; those ahead of it and behind it have one, and are no leap seconds.
func TestGPSAboutLines(t *testing.T) {
	for _, l := range lines()[1:] {
		wantGPS(t, l.UTC-1, false, l.GPS-2, api.OK)
		wantGPS(t, l.UTC-1, true, 0, api.ErrForm)
		wantGPS(t, l.UTC, true, l.GPS-1, api.OK)
		wantGPS(t, l.UTC, false, l.GPS, api.OK)
		wantGPS(t, l.UTC+1, false, l.GPS+1, api.OK)
		wantGPS(t, l.UTC+1, true, 0, api.ErrForm)
	}
}

// P4.2, P1: no leap second is ahead of the first line, of a second within a day or a year that has none, or of the last one that may be.
func TestGPSRefusesLeap(t *testing.T) {
	for _, sec := range []int64{
		2_524_953_600, 2_524_953_601, 2_525_040_000, 2_571_782_400 - 86_400, 2_571_782_400 + 86_400, 3_155_673_600, 3_692_217_600 + 18, 3_692_217_600 - 18,
		3_692_217_600 + 365*86_400, 1 << 32, lastSec - 1, lastSec,
	} {
		wantGPS(t, sec, true, 0, api.ErrForm)
	}
}

// P4.2, P1: what is beyond is told ahead of a leap second that is none.
func TestGPSRefusesBeyond(t *testing.T) {
	for _, sec := range []int64{
		2_524_953_599, 2_524_953_598, 2_524_953_600 - 18, 86_400, 1, 0, -1, -2_524_953_600, -1 << 40, least + api.Epoch, least + 18, least + 1, least,
		lastSec + 1, lastSec + 2, lastSec + 17, lastSec + 18, lastSec + 19, 1 << 34, 1 << 40, api.MaxGPS, most - api.Epoch, most - 18, most - 1, most,
	} {
		wantGPS(t, sec, false, 0, api.ErrOver)
		wantGPS(t, sec, true, 0, api.ErrOver)
	}
}

// P4.2
func TestNextKnown(t *testing.T) {
	for _, x := range [][2]int64{
		{least, 0}, {least + 1, 0}, {-1 << 32, 0}, {-2, 0}, {-1, 0}, {0, 46_828_801}, {1, 46_828_801}, {46_828_799, 46_828_801}, {46_828_800, 46_828_801},
		{46_828_801, 78_364_802}, {46_828_802, 78_364_802}, {600_000_000, 820_108_814}, {1_119_744_017, 1_167_264_018}, {1_167_264_016, 1_167_264_018}, {1_167_264_017, 1_167_264_018},
	} {
		wantNext(t, x[0], x[1], true)
	}
	for _, gps := range []int64{1_167_264_018, 1_167_264_019, 1_400_000_000, 6_000_000_000, 6_000_000_001, api.MaxGPS, most - 1, most} {
		wantNext(t, gps, 0, false)
	}
}

// P4.2: ahead of each line it is the next one, at it and behind it no more.
func TestNextAboutLines(t *testing.T) {
	all := lines()
	for i, l := range all {
		for _, gps := range []int64{l.GPS - 2, l.GPS - 1} {
			wantNext(t, gps, l.GPS, true)
		}
		for _, gps := range []int64{l.GPS, l.GPS + 1} {
			if i+1 < len(all) {
				wantNext(t, gps, all[i+1].GPS, true)
			} else {
				wantNext(t, gps, 0, false)
			}
		}
	}
}

// P4.1, P4.2: UTC and GPS are each other's.
func TestUTCAndGPSAreEachOthers(t *testing.T) {
	for _, gps := range mayBe(20_000) {
		sec, leap, e := UTC(gps)
		if e != api.OK {
			t.Fatalf("UTC of %d: %d", gps, e)
		}
		wantGPS(t, sec, leap, gps, api.OK)
	}
	r := rand.New(rand.NewSource(5))
	for range 20_000 {
		sec := 2_524_953_600 + r.Int63n(lastSec-2_524_953_600+1)
		gps, e := GPS(sec, false)
		if e != api.OK {
			t.Fatalf("GPS of %d: %d", sec, e)
		}
		wantUTC(t, gps, sec, false, api.OK)
	}
}

// wantStep asks that the UTC second behind a GPS second is one more, but behind a leap second the same.
func wantStep(t *testing.T, gps int64) {
	t.Helper()
	sec, leap, e := UTC(gps)
	next, _, f := UTC(gps + 1)
	if e != api.OK || f != api.OK {
		t.Fatalf("UTC of %d and the next one: %d, %d", gps, e, f)
	}
	want := sec + 1
	if leap {
		want = sec
	}
	if next != want {
		t.Errorf("UTC of %d: %d, %v; of the next one %d, want %d", gps, sec, leap, next, want)
	}
}

// P4.1: UTC seconds do not fall, and stay for two GPS seconds just at leap seconds.
func TestUTCDoesNotFall(t *testing.T) {
	all := mayBe(20_000)
	slices.Sort(all)
	before := int64(0)
	for _, gps := range all {
		sec, _, e := UTC(gps)
		if e != api.OK || sec < before {
			t.Errorf("UTC of %d: %d, %d falls below %d", gps, sec, e, before)
		}
		before = sec
		if gps < 6_000_000_000 {
			wantStep(t, gps)
		}
	}
	for _, l := range leapSeconds() {
		for gps := l - 600; gps < l+600; gps++ {
			wantStep(t, gps)
		}
	}
}
