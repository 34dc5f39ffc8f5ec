package nmeaout

import (
	"math"
	"math/rand"
	"testing"

	"remontoire/api"
	"remontoire/civil"
	"remontoire/field"
	"remontoire/frame"
	"remontoire/nmea"
	"remontoire/ring"
)

// The first and the last second that may be told: 1980-01-01 00:00:00 and 2199-12-31 23:59:59.
const (
	firstSecond = 2_524_521_600
	lastSecond  = 9_467_107_199
)

// wantTold asks that the sentence of a second, taken out of a ring, tells that second, or none, if it is not valid.
func wantTold(t *testing.T, sec int64, valid bool) {
	t.Helper()
	row, e := Clock(sec, valid)
	if e != api.OK {
		t.Fatalf("Clock of %d, %t: %d", sec, valid, e)
	}
	r, _ := ring.New(api.MinRing)
	r.Put(row)
	f, ok, dropped := frame.Next(r)
	if !ok || dropped != 0 || r.Len() != 0 {
		t.Fatalf("Clock of %d, %t: %q is taken as %q, %t, %d dropped, %d left", sec, valid, row, f.Body, ok, dropped, r.Len())
	}
	fix, e := nmea.Parse(string(f.Body))
	if e != api.OK {
		t.Fatalf("Clock of %d, %t: %q tells the error %d", sec, valid, f.Body, e)
	}
	if !valid {
		if fix != (api.Fix{Kind: api.ZDA}) {
			t.Fatalf("Clock of %d, not valid: %q tells %+v", sec, f.Body, fix)
		}
		return
	}
	m := api.Moment{Year: fix.Year, Month: fix.Month, Day: fix.Day, Hour: fix.Time.H, Minute: fix.Time.M, Second: fix.Time.S}
	if told, e := civil.Second(m); e != api.OK || told != sec {
		t.Fatalf("Clock of %d: %q tells the second %d, %d", sec, f.Body, told, e)
	}
	want := api.Fix{Kind: api.ZDA, Valid: true, HasTime: true, HasDate: true, Time: fix.Time, Day: m.Day, Month: m.Month, Year: m.Year}
	if fix != want || !fix.Time.Whole {
		t.Fatalf("Clock of %d: %q tells %+v, want %+v", sec, f.Body, fix, want)
	}
}

// wantWhole asks all of a second: valid or not, as a row, and by what layer 10 tells of it.
func wantWhole(t *testing.T, sec int64) {
	t.Helper()
	for _, valid := range []bool{true, false} {
		wantClock(t, sec, valid)
		wantTold(t, sec, valid)
	}
}

// P11.3: known answers, written out.
func TestClockKnown(t *testing.T) {
	for sec, body := range map[int64]string{
		firstSecond:   "GPZDA,000000,01,01,1980,00,00",
		lastSecond:    "GPZDA,235959,31,12,2199,00,00",
		3_235_981_519: "GPZDA,114519,18,07,2002,00,00",
		2_524_953_600: "GPZDA,000000,06,01,1980,00,00",
		3_160_814_401: "GPZDA,120001,29,02,2000,00,00",
		3_692_217_599: "GPZDA,235959,31,12,2016,00,00",
		3_692_217_600: "GPZDA,000000,01,01,2017,00,00",
		1 << 32:       "GPZDA,062816,07,02,2036,00,00",
		1<<32 - 1:     "GPZDA,062815,07,02,2036,00,00",
	} {
		name, call := clockCall(sec, true)
		wantRow(t, name, call, body)
		name, call = clockCall(sec, false)
		wantRow(t, name, call, "GPZDA,,,,,00,00")
		wantWhole(t, sec)
	}
	row, _ := Clock(firstSecond, false)
	if string(row) != "$GPZDA,,,,,00,00*48\r\n" {
		t.Errorf("Clock of the first second, not valid: %q", row)
	}
}

// P11.3: the first and the last second, and those beside them.
func TestClockBounds(t *testing.T) {
	if secondOf(1980, 1, 1, 0, 0, 0) != firstSecond || secondOf(2199, 12, 31, 23, 59, 59) != lastSecond {
		t.Fatal("the bounds are not those of the years 1980 to 2199")
	}
	for n := range int64(100_000) {
		wantClock(t, firstSecond+n, true)
		wantClock(t, lastSecond-n, true)
		wantNoClock(t, firstSecond-1-n)
		wantNoClock(t, lastSecond+1+n)
	}
	for n := range int64(1000) {
		wantWhole(t, firstSecond+n)
		wantWhole(t, lastSecond-n)
	}
}

// P11.3: far seconds; the years 1900 to 1979 have moments, but may not be told.
func TestClockFar(t *testing.T) {
	for _, sec := range []int64{
		0, 1, -1, 59, 60, 3600, 86399, 86400, -86400, 1 << 31, -1 << 31, 2_208_988_800, 1 << 34, 1 << 35, -1 << 32, 10_000_000_000, 100_000_000_000, 1 << 40, 1 << 53, 1 << 62, -1 << 62,
		firstSecond - 1<<32, firstSecond - 1<<33, lastSecond + 1<<32, firstSecond + 1<<33, -firstSecond, -lastSecond, api.MaxGPS, -api.MaxGPS,
		math.MaxInt64, math.MaxInt64 - 1, math.MinInt64, math.MinInt64 + 1, math.MaxInt64 - firstSecond, math.MinInt64 + lastSecond,
	} {
		wantNoClock(t, sec)
	}
	for year := 1900; year < 1980; year++ {
		for month := 1; month <= 12; month++ {
			wantNoClock(t, secondOf(year, month, 1, 0, 0, 0))
			wantNoClock(t, secondOf(year, month, 28, 23, 59, 59))
		}
	}
	for _, year := range []int{2200, 2201, 2300, 2400, 9999, 10000, 1899, 1800, 1, 0} {
		wantNoClock(t, secondOf(year, 1, 1, 0, 0, 0))
		wantNoClock(t, secondOf(year, 12, 31, 23, 59, 59))
	}
	draw := rand.New(rand.NewSource(1131))
	for range 20000 {
		sec := int64(draw.Uint64() >> draw.Intn(64))
		if sec < firstSecond || sec > lastSecond {
			wantNoClock(t, sec)
			continue
		}
		wantWhole(t, sec)
	}
}

// P11.3: each date's midnight, its last second, and one drawn second of it, so that days and months of one digit and of two are among them.
func TestClockOfEachDate(t *testing.T) {
	draw := rand.New(rand.NewSource(1132))
	for day := int64(firstSecond); day < lastSecond; day += api.Day {
		wantClock(t, day, true)
		wantClock(t, day+api.Day-1, true)
		wantTold(t, day+draw.Int63n(api.Day), true)
		wantClock(t, day+draw.Int63n(api.Day), draw.Intn(2) == 0)
	}
}

// P11.3: each second of a day, so that hours, minutes and seconds of one digit and of two are among them.
func TestClockOfEachTime(t *testing.T) {
	midnight := secondOf(2036, 2, 9, 0, 0, 0)
	for n := range int64(api.Day) {
		wantClock(t, midnight+n, true)
		wantTold(t, midnight+n, true)
	}
}

// P11.3: the ends of months, of leap years' too.
func TestClockAtMonths(t *testing.T) {
	for year := 1980; year <= 2199; year++ {
		for month := 1; month <= 12; month++ {
			first := secondOf(year, month, 1, 0, 0, 0)
			wantWhole(t, first)
			if first > firstSecond {
				wantWhole(t, first-1)
			}
		}
	}
}

// P11.3: seven fields whatever is told, each of as many digits as the chapter has it, or empty.
func TestClockFields(t *testing.T) {
	draw := rand.New(rand.NewSource(1133))
	for range 5000 {
		sec := firstSecond + draw.Int63n(lastSecond-firstSecond+1)
		for _, valid := range []bool{true, false} {
			row, _ := Clock(sec, valid)
			fields := field.Split(string(row[1 : len(row)-5]))
			sizes := []int{5, 0, 0, 0, 0, 2, 2}
			if valid {
				sizes = []int{5, 6, 2, 2, 4, 2, 2}
			}
			if len(fields) != len(sizes) {
				t.Fatalf("Clock of %d, %t: %q", sec, valid, row)
			}
			for i, size := range sizes {
				if len(fields[i]) != size {
					t.Fatalf("Clock of %d, %t: %q, field %d", sec, valid, row, i)
				}
			}
		}
	}
}
