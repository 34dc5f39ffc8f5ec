package message

import (
	"strconv"
	"testing"

	"remontoire/api"
)

// utcShapes are the shapes that tell UTC.
var utcShapes = []string{"PVT", "TIMEUTC", "SIRF41", "SIRF52"}

// moment is the fields of a date, an hour, a minute and a second, as a shape has them.
func moment(shape string, year, month, day, hour, minute, second int64) values {
	if shape == "SIRF41" {
		second *= 1000
	}
	return values{"year": year, "month": month, "day": day, "hour": hour, "minute": minute, "second": second}
}

// wantMoment asks each kind that can tell a moment of it for its UTC second, or none.
func wantMoment(t *testing.T, year, month, day, hour, minute, second int64) {
	t.Helper()
	m, ok := modelUTC(year, month, day, hour, minute, second)
	for _, name := range utcShapes {
		v, told := ordinaryOf(name)
		m.Kind = told.Kind
		wantIf(t, named(name).with(v, moment(name, year, month, day, hour, minute, second)), m, ok)
	}
	if month > 99 || day > 99 || hour > 99 || minute > 99 || second > 99 {
		return
	}
	clock := two(int(hour)) + two(int(minute)) + two(int(second))
	m.Kind = api.MsgZDA
	wantIf(t, zda(clock, two(int(day)), two(int(month)), strconv.FormatInt(year, 10)), m, ok)
	if year >= 2000 && year <= 2099 {
		m.Kind, m.Cycle = api.MsgRMC, 100
		wantIf(t, rmc(clock, two(int(day))+two(int(month))+two(int(year-2000))), m, ok)
	}
}

// P15.1: UTC seconds written out by hand, of all kinds that can tell them.
func TestUTCByHand(t *testing.T) {
	for _, x := range []struct {
		year, month, day, hour, minute, second, told int64
		leap                                         bool
	}{
		{1980, 1, 1, 0, 0, 0, 2_524_521_600, false},
		{1980, 1, 6, 0, 0, 0, api.Epoch, false},
		{2000, 2, 29, 12, 0, 1, 3_160_814_401, false},
		{2016, 12, 31, 23, 59, 59, 3_692_217_599, false},
		{2016, 12, 31, 23, 59, 60, 3_692_217_599, true},
		{2017, 1, 1, 0, 0, 0, 3_692_217_600, false},
		{2020, 1, 1, 0, 0, 60, 3_786_825_659, true},
		{2020, 1, 1, 0, 0, 5, 3_786_825_605, false},
		{2199, 12, 31, 23, 59, 60, 9_467_107_199, true},
	} {
		m := api.Msg{UTC: true, Sec: x.told, Leap: x.leap}
		if got, ok := modelUTC(x.year, x.month, x.day, x.hour, x.minute, x.second); got != m || !ok {
			t.Fatalf("the model of %v: %+v, %t", x, got, ok)
		}
		wantMoment(t, x.year, x.month, x.day, x.hour, x.minute, x.second)
	}
}

// P15.1: each second of a minute, 59, 60 and 61 among them, and all others that have room; a leap second in any minute.
func TestUTCSeconds(t *testing.T) {
	for second := range int64(256) {
		if second < 66 { // layer 13's field has no room for more milliseconds
			wantMoment(t, 2020, 2, 29, 12, 34, second)
			wantMoment(t, 2019, 6, 30, 23, 59, second)
			wantMoment(t, 2020, 1, 1, 0, 0, second)
			continue
		}
		for _, name := range []string{"PVT", "TIMEUTC", "SIRF52"} {
			v, _ := ordinaryOf(name)
			wantNone(t, named(name).with(v, values{"second": second}))
		}
	}
	for _, at := range [][2]int64{{0, 0}, {0, 59}, {12, 0}, {23, 0}, {23, 58}, {23, 59}} {
		for _, second := range []int64{0, 58, 59, 60, 61} {
			wantMoment(t, 2019, 6, 30, at[0], at[1], second)
		}
	}
}

// P15.1: all milliseconds of SiRF's message 41: a multiple of 1000, and a second up to 60.
func TestMilliseconds41(t *testing.T) {
	s := named("SIRF41")
	v, m := ordinaryOf("SIRF41")
	minute := m.Sec - 1
	for ms := range int64(65536) {
		m.Sec, m.Leap = minute+ms/1000, false
		if ms == 60_000 {
			m.Sec, m.Leap = minute+59, true
		}
		wantIf(t, s.with(v, values{"second": ms}), m, ms%1000 == 0 && ms <= 60_000)
	}
}

// P15.1: each minute, hour, day and month that a byte has room for, with a second and a leap second.
func TestUTCParts(t *testing.T) {
	for x := range int64(256) {
		for _, second := range []int64{5, 60} {
			wantMoment(t, 2020, 7, 9, 12, x, second)
			wantMoment(t, 2020, 7, 9, x, 45, second)
			wantMoment(t, 2020, 7, x, 12, 45, second)
			wantMoment(t, 2020, x, 9, 12, 45, second)
			wantMoment(t, 2020, x, 31, 23, 59, second)
		}
	}
}

// P15.1: each day of each month, and those that are none, of all years about those that are told.
func TestUTCDays(t *testing.T) {
	s := named("TIMEUTC")
	v, told := ordinaryOf("TIMEUTC")
	for year := int64(1976); year <= 2203; year++ {
		for month := range int64(14) {
			for day := range int64(33) {
				m, ok := modelUTC(year, month, day, 1, 2, 3)
				m.Kind = told.Kind
				wantIf(t, s.with(v, moment("TIMEUTC", year, month, day, 1, 2, 3)), m, ok)
			}
		}
	}
}

// P15.1: the ends of months, of leap years and of those that are none, of all kinds.
func TestUTCEndsOfMonths(t *testing.T) {
	for _, year := range []int64{1979, 1980, 1981, 1999, 2000, 2001, 2004, 2015, 2016, 2017, 2079, 2080, 2096, 2099, 2100, 2101, 2104, 2196, 2199, 2200} {
		for month := int64(1); month <= 12; month++ {
			for day := int64(28); day <= 32; day++ {
				wantMoment(t, year, month, day, 0, 0, 0)
				wantMoment(t, year, month, day, 23, 59, 60)
			}
		}
	}
}

// P15.1: all years that have room: none below 1980, none beyond 2199.
func TestUTCYears(t *testing.T) {
	first := map[int64]int64{1980: 2_524_521_600, 2000: 3_155_673_600, 2199: 9_435_571_200}
	for year := range int64(65536) {
		m, ok := modelUTC(year, 1, 1, 0, 0, 0)
		if told, there := first[year]; there && m.Sec != told {
			t.Fatalf("the model of %d: %d, want %d", year, m.Sec, told)
		}
		for _, name := range utcShapes {
			v, told := ordinaryOf(name)
			m.Kind = told.Kind
			wantIf(t, named(name).with(v, moment(name, year, 1, 1, 0, 0, 0)), m, ok)
		}
	}
	for year := range int64(10_000) {
		text := strconv.FormatInt(10_000+year, 10)[1:]
		m, ok := modelUTC(year, 1, 1, 0, 0, 0)
		m.Kind = api.MsgZDA
		wantIf(t, zda("000000", "01", "01", text), m, ok)
	}
}

// P15.1: an RMC sentence's two digits are those of the years 2000 to 2099, each of which is told but for a hundred years.
func TestRMCYears(t *testing.T) {
	for digits, first := range map[int]int64{0: 3_155_673_600, 79: 5_648_745_600, 80: 5_680_281_600, 99: 6_279_897_600} {
		want(t, rmc("000000", "0101"+two(digits)), api.Msg{Kind: api.MsgRMC, UTC: true, Sec: first, Cycle: 100}, true)
	}
	for digits := range 100 {
		for month := 1; month <= 12; month++ {
			for day := 1; day <= 31; day++ {
				m, ok := modelUTC(int64(2000+digits), int64(month), int64(day), 23, 59, 60)
				m.Kind, m.Cycle = api.MsgRMC, 100
				wantIf(t, rmc("235960", two(day)+two(month)+two(digits)), m, ok)
			}
		}
	}
}

// P15.1: each second of a day by RMC and ZDA, and those of times that are none.
func TestTimesOfSentences(t *testing.T) {
	start := int64(3_786_825_600) // 2020-01-01
	for h := range 25 {
		for m := range 61 {
			for s := range 62 {
				clock := two(h) + two(m) + two(s)
				told := api.Msg{UTC: true, Sec: start + int64(3600*h+60*m+min(s, 59)), Leap: s == 60}
				ok := h < 24 && m < 60 && s <= 60
				told.Kind = api.MsgZDA
				wantIf(t, zda(clock, "01", "01", "2020"), told, ok)
				told.Kind, told.Cycle = api.MsgRMC, 100
				wantIf(t, rmc(clock, "010120"), told, ok)
			}
		}
	}
}

// P15.1: a moment's second, of whatever stands in it: no frame has room for numbers below 0, or so far ones.
func TestMoments(t *testing.T) {
	const far = 1<<31 - 1
	parts := []int{-far - 1, -2000, -61, -60, -59, -1, 0, 1, 2, 12, 13, 23, 24, 28, 29, 30, 31, 32, 59, 60, 61, 1900, 1979, 1980, 2000, 2020, 2100, 2199, 2200, far}
	asked := func(m api.Moment) {
		t.Helper()
		w, ok := modelUTC(int64(m.Year), int64(m.Month), int64(m.Day), int64(m.Hour), int64(m.Minute), int64(m.Second))
		if got, told := ofUTC(m); got != w || told != ok {
			t.Fatalf("of %+v: %+v, %t, want %+v, %t", m, got, told, w, ok)
		}
	}
	for _, x := range parts {
		for _, second := range []int{-1, 0, 59, 60, 61} {
			asked(api.Moment{Year: x, Month: 2, Day: 29, Hour: 3, Minute: 4, Second: second})
			asked(api.Moment{Year: 2020, Month: x, Day: 29, Hour: 3, Minute: 4, Second: second})
			asked(api.Moment{Year: 2020, Month: 2, Day: x, Hour: 3, Minute: 4, Second: second})
			asked(api.Moment{Year: 2020, Month: 2, Day: 29, Hour: x, Minute: 4, Second: second})
			asked(api.Moment{Year: 2020, Month: 2, Day: 29, Hour: 3, Minute: x, Second: second})
		}
		asked(api.Moment{Year: 2020, Month: 2, Day: 29, Hour: 3, Minute: 4, Second: x})
	}
}
