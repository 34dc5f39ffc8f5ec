package message

import (
	"math"
	"math/rand"
	"testing"

	"remontoire/api"
)

// gpsShapes are the shapes that tell GPS: how many milliseconds their TOW counts by, and how many weeks they tell apart.
var gpsShapes = []struct {
	name        string
	unit, weeks int64
}{
	{"TIMEGPS", 1, 65536},
	{"TIM-TP", 1, 65536},
	{"SIRF2", 10, 1024},
	{"SIRF4", 10, 1024},
	{"SIRF7", 10, 65536},
}

// weekOf is a week as a shape has it: SiRF's message 4 has it signed.
func weekOf(shape string, week int64) values {
	if shape == "SIRF4" && week > 32767 {
		week -= 65536
	}
	return values{"week": week}
}

// P15.1: milliseconds of a week: those that are whole seconds of it, and no others.
func TestMillisecondsOfAWeek(t *testing.T) {
	list := []int64{0, 1, 9, 10, 99, 100, 500, 990, 999, 1000, 1001, 1010, 1990, 2000, 60_000, 86_400_000, 302_400_000, 604_798_000, 604_799_000, 604_799_001, 604_799_990, 604_799_999, 604_800_000, 604_800_001, 604_800_010, 604_801_000, 605_000_000, 1_000_000_000, 1_209_600_000, 1<<31 - 8, 1 << 31, 4_294_967_000, 4_294_967_290, 4_294_967_295}
	r := rand.New(rand.NewSource(151))
	for range 3000 {
		list = append(list, 1000*r.Int63n(604_800), 10*r.Int63n(60_480_000), r.Int63n(1<<32), 1000*r.Int63n(1<<32/1000))
	}
	for _, x := range gpsShapes {
		s := named(x.name)
		v, m := ordinaryOf(x.name)
		for _, ms := range list {
			if ms%x.unit != 0 {
				continue
			}
			start := v["week"] * 604_800
			m.Sec = start + ms/1000
			wantIf(t, s.with(v, values{"TOW": ms / x.unit}), m, ms < 604_800_000 && ms%1000 == 0)
		}
		// Of tens of milliseconds there may be ten times as many.
		for _, tow := range []int64{429_496_729, 429_496_730, 429_496_800, 604_800_000, 1 << 31, 4_294_967_200, 4_294_967_295} {
			wantNone(t, s.with(v, values{"TOW": tow}))
			wantAsModel(t, s.with(v, values{"TOW": tow}))
		}
	}
}

// P15.1: times of which ten times the number would be a second, were it held in so many bits.
func TestTensOfMilliseconds(t *testing.T) {
	for _, x := range gpsShapes[2:] {
		s := named(x.name)
		v, m := ordinaryOf(x.name)
		for tow := range int64(1000) {
			m.Sec = v["week"]*604_800 + tow/100
			wantIf(t, s.with(v, values{"TOW": tow}), m, tow%100 == 0)
			// Ten times 2^31 is a multiple of 2^32.
			wantNone(t, s.with(v, values{"TOW": 1<<31 + tow}))
		}
		want(t, s.with(v, values{"TOW": 60_479_900}), api.Msg{Kind: m.Kind, Cycle: m.Cycle, Sec: v["week"]*604_800 + 604_799}, true)
		wantNone(t, s.with(v, values{"TOW": 60_479_999}))
		wantNone(t, s.with(v, values{"TOW": 60_480_000}))
		wantNone(t, s.with(v, values{"TOW": 60_480_100}))
	}
}

// P15.1: all weeks; of messages 2 and 4 of SiRF the ten lowest bits alone.
func TestWeeks(t *testing.T) {
	for _, x := range gpsShapes {
		s := named(x.name)
		v, m := ordinaryOf(x.name)
		into := m.Sec % 604_800
		for week := range int64(65536) {
			m.Sec = week%x.weeks*604_800 + into
			want(t, s.with(v, weekOf(x.name, week)), m, true)
		}
	}
}

// P15.1: weeks at edges, by hand.
func TestWeeksByHand(t *testing.T) {
	for _, x := range []struct {
		shape      string
		week, told int64
	}{
		{"TIMEGPS", 0, 6}, {"TIMEGPS", 1023, 618_710_406}, {"TIMEGPS", 1024, 619_315_206}, {"TIMEGPS", 65535, 39_635_568_006},
		{"TIM-TP", 0, 6}, {"TIM-TP", 1023, 618_710_406}, {"TIM-TP", 1024, 619_315_206}, {"TIM-TP", 65535, 39_635_568_006},
		{"SIRF2", 0, 7}, {"SIRF2", 1023, 618_710_407}, {"SIRF2", 1024, 7}, {"SIRF2", 2048, 7}, {"SIRF2", 65535, 618_710_407}, {"SIRF2", 0xFC00, 7}, {"SIRF2", 0xFC05, 3_024_007},
		{"SIRF4", 0, 7}, {"SIRF4", 1023, 618_710_407}, {"SIRF4", 1024, 7}, {"SIRF4", 32767, 618_710_407}, {"SIRF4", -1, 618_710_407}, {"SIRF4", -1024, 7}, {"SIRF4", -32768, 7}, {"SIRF4", -1019, 3_024_007},
		{"SIRF7", 0, 7}, {"SIRF7", 1023, 618_710_407}, {"SIRF7", 1024, 619_315_207}, {"SIRF7", 65535, 39_635_568_007},
	} {
		v, m := ordinaryOf(x.shape)
		m.Sec = x.told
		want(t, named(x.shape).with(v, values{"week": x.week}), m, true)
	}
}

// P15.1: a GPS second of any milliseconds, those that no frame has room for, too.
func TestGPSSeconds(t *testing.T) {
	for _, week := range []int64{0, 1, 1023, 1024, 2000, 65535} {
		for _, ms := range []int64{math.MinInt64, math.MinInt64 + 808, -604_800_000, -1_000_000, -1001, -1000, -999, -1, 0, 1, 999, 1000, 1001, 2000, 604_798_999, 604_799_000, 604_799_001, 604_799_999, 604_800_000, 604_800_001, 604_801_000, 1_209_600_000, 1 << 32, 42_949_672_950, math.MaxInt64 - 807, math.MaxInt64} {
			w, ok := modelGPS(week, ms)
			if got, told := ofGPS(week, ms); got != w || told != ok {
				t.Fatalf("of week %d, %d ms: %+v, %t, want %+v, %t", week, ms, got, told, w, ok)
			}
		}
	}
}
