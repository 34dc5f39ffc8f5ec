package nmea

import (
	"strings"
	"testing"

	"remontoire/api"
)

func daytime(h, m, s int, whole bool) api.DayTime {
	return api.DayTime{H: h, M: m, S: s, Whole: whole}
}

// P10.1: the chapter's examples.
func TestExamples(t *testing.T) {
	want(t, "GPZDA,123519,04,07,2002,00,00", api.Fix{Kind: api.ZDA, Valid: true, HasTime: true, HasDate: true, Time: daytime(12, 35, 19, true), Day: 4, Month: 7, Year: 2002}, api.OK)
	want(t, "GPGLL,4916.45,N,12311.12,W,225444,A", api.Fix{Kind: api.GLL, Valid: true, HasTime: true, HasPos: true, Time: daytime(22, 54, 44, true), Lat: 295645000, Lon: -739112000}, api.OK)
	wantError(t, "GPZDA,246000,04,07,2002,00,00", api.ErrForm)
}

// P10.1: ordinary bodies of each kind.
func TestOrdinary(t *testing.T) {
	for _, x := range []struct {
		body string
		fix  api.Fix
	}{
		{"GPRMC,123519,A,4807.038,N,01131.000,E,022.4,084.4,230394,003.1,W", api.Fix{Kind: 1, Valid: true, HasTime: true, HasDate: true, HasPos: true, Time: daytime(12, 35, 19, true), Day: 23, Month: 3, Year: 94, Lat: 288703800, Lon: 69100000, Speed: 22400, Course: 8440}},
		{"GNRMC,001031.05,V,3723.71722,S,12202.26935,W,0.007,359.99,010100,,,N,V", api.Fix{Kind: 1, HasTime: true, HasDate: true, HasPos: true, Time: daytime(0, 10, 31, false), Day: 1, Month: 1, Lat: -224371722, Lon: -732226935, Speed: 7, Course: 35999}},
		{"GPRMC,235960.000,A,,,,,,,311216,,,A", api.Fix{Kind: 1, Valid: true, HasTime: true, HasDate: true, Time: daytime(23, 59, 60, true), Day: 31, Month: 12, Year: 16}},
		{"GPRMC,,V,,,,,,,,,", api.Fix{Kind: 1}},
		{"GPGGA,123519,4807.038,N,01131.000,E,1,08,0.9,545.4,M,46.9,M,1,0120", api.Fix{Kind: 2, Valid: true, HasTime: true, HasPos: true, Time: daytime(12, 35, 19, true), Lat: 288703800, Lon: 69100000, Quality: 1, Sats: 8, HDOP: 90, Height: 545400}},
		{"GLGGA,092725.00,4717.11399,N,00833.91590,E,8,12,1.01,-31.6549,M,48.0,M,,", api.Fix{Kind: 2, Valid: true, HasTime: true, HasPos: true, Time: daytime(9, 27, 25, true), Lat: 283711399, Lon: 51391590, Quality: 8, Sats: 12, HDOP: 101, Height: -31654}},
		{"GPGGA,,,,,,0,00,99.99,,,,,,", api.Fix{Kind: 2, HDOP: 9999}},
		{"GPGGA,,,,,,,,,,,,,,", api.Fix{Kind: 2}},
		{"GPGLL,4916.45,S,12311.12,E,225444.50,A,A", api.Fix{Kind: 3, Valid: true, HasTime: true, HasPos: true, Time: daytime(22, 54, 44, false), Lat: -295645000, Lon: 739112000}},
		{"GPGLL,,,,,,V", api.Fix{Kind: 3}},
		{"GPGSA,A,3,04,05,,09,12,,,24,,,,,2.5,1.3,2.1", api.Fix{Kind: 4, Valid: true, Mode: 3, Sats: 5, PDOP: 250, HDOP: 130, VDOP: 210}},
		{"GNGSA,M,2,1,2,3,4,5,6,7,8,9,10,11,999,1,2,3.009,4", api.Fix{Kind: 4, Valid: true, Mode: 2, Sats: 12, PDOP: 100, HDOP: 200, VDOP: 300}},
		{"GPGSA,A,1,,,,,,,,,,,,,,,", api.Fix{Kind: 4, Mode: 1}},
		{"GPZDA,201530.00,04,07,2002,-13,00", api.Fix{Kind: 5, Valid: true, HasTime: true, HasDate: true, Time: daytime(20, 15, 30, true), Day: 4, Month: 7, Year: 2002}},
		{"GPZDA,,,,,,", api.Fix{Kind: 5}},
		{"GPVTG,054.7,T,034.4,M,005.5,N,010.2,K", api.Fix{Kind: 6, Valid: true, Course: 5470, Speed: 5500}},
		{"GPVTG,77.529,T,,M,0.0045,N,0.008,K,A", api.Fix{Kind: 6, Valid: true, Course: 7752, Speed: 4}},
		{"GPVTG,,,,,,,,", api.Fix{Kind: 6, Valid: true}},
		{"GPGSV,2,1,08,01,40,083,46,02,17,308,41,12,07,344,39,14,22,228,45", api.Fix{Kind: 7, Valid: true, Parts: 2, Part: 1, Sats: 8}},
		{"GLGSV,9,9,99,65,10,100,,1", api.Fix{Kind: 7, Valid: true, Parts: 9, Part: 9, Sats: 99}},
		{"GPGSV,1,1,00", api.Fix{Kind: 7, Valid: true, Parts: 1, Part: 1}},
	} {
		want(t, x.body, x.fix, api.OK)
	}
}

// P10.1: each kind's fields, each alone, next to those that must be there, and what it tells then.
func TestEachFieldAlone(t *testing.T) {
	at := daytime(1, 2, 3, true)
	for _, x := range []struct {
		kind  string
		count int
		place int
		s     string
		fix   api.Fix
	}{
		{"RMC", 11, 1, "010203", api.Fix{Kind: 1, Valid: true, HasTime: true, Time: at}}, {"RMC", 11, 2, "A", api.Fix{Kind: 1, Valid: true}}, {"RMC", 11, 2, "V", api.Fix{Kind: 1}},
		{"RMC", 11, 3, "4807.038", api.Fix{Kind: 1, Valid: true}}, {"RMC", 11, 4, "S", api.Fix{Kind: 1, Valid: true}}, {"RMC", 11, 5, "01131.000", api.Fix{Kind: 1, Valid: true}}, {"RMC", 11, 6, "W", api.Fix{Kind: 1, Valid: true}},
		{"RMC", 11, 7, "1.0009", api.Fix{Kind: 1, Valid: true, Speed: 1000}}, {"RMC", 11, 8, "1.009", api.Fix{Kind: 1, Valid: true, Course: 100}}, {"RMC", 11, 9, "040506", api.Fix{Kind: 1, Valid: true, HasDate: true, Day: 4, Month: 5, Year: 6}},
		{"GGA", 14, 1, "010203", api.Fix{Kind: 2, HasTime: true, Time: at}}, {"GGA", 14, 2, "4807.038", api.Fix{Kind: 2}}, {"GGA", 14, 3, "S", api.Fix{Kind: 2}}, {"GGA", 14, 4, "01131.000", api.Fix{Kind: 2}}, {"GGA", 14, 5, "W", api.Fix{Kind: 2}},
		{"GGA", 14, 6, "1", api.Fix{Kind: 2, Valid: true, Quality: 1}}, {"GGA", 14, 6, "0", api.Fix{Kind: 2}}, {"GGA", 14, 7, "07", api.Fix{Kind: 2, Sats: 7}}, {"GGA", 14, 8, "1.009", api.Fix{Kind: 2, HDOP: 100}}, {"GGA", 14, 9, "-1.0009", api.Fix{Kind: 2, Height: -1000}}, {"GGA", 14, 10, "M", api.Fix{Kind: 2}},
		{"GLL", 6, 1, "4807.038", api.Fix{Kind: 3, Valid: true}}, {"GLL", 6, 2, "S", api.Fix{Kind: 3, Valid: true}}, {"GLL", 6, 3, "01131.000", api.Fix{Kind: 3, Valid: true}}, {"GLL", 6, 4, "W", api.Fix{Kind: 3, Valid: true}}, {"GLL", 6, 5, "010203", api.Fix{Kind: 3, Valid: true, HasTime: true, Time: at}}, {"GLL", 6, 6, "V", api.Fix{Kind: 3}},
		{"GSA", 17, 1, "M", api.Fix{Kind: 4, Valid: true, Mode: 3}}, {"GSA", 17, 2, "1", api.Fix{Kind: 4, Mode: 1}}, {"GSA", 17, 2, "2", api.Fix{Kind: 4, Valid: true, Mode: 2}},
		{"GSA", 17, 3, "1", api.Fix{Kind: 4, Valid: true, Mode: 3, Sats: 1}}, {"GSA", 17, 14, "999", api.Fix{Kind: 4, Valid: true, Mode: 3, Sats: 1}},
		{"GSA", 17, 15, "1.009", api.Fix{Kind: 4, Valid: true, Mode: 3, PDOP: 100}}, {"GSA", 17, 16, "1.009", api.Fix{Kind: 4, Valid: true, Mode: 3, HDOP: 100}}, {"GSA", 17, 17, "1.009", api.Fix{Kind: 4, Valid: true, Mode: 3, VDOP: 100}},
		{"ZDA", 6, 1, "010203", api.Fix{Kind: 5, HasTime: true, Time: at}}, {"ZDA", 6, 2, "04", api.Fix{Kind: 5, Day: 4}}, {"ZDA", 6, 3, "05", api.Fix{Kind: 5, Month: 5}}, {"ZDA", 6, 4, "2006", api.Fix{Kind: 5, Year: 2006}},
		{"VTG", 8, 1, "1.009", api.Fix{Kind: 6, Valid: true, Course: 100}}, {"VTG", 8, 2, "T", api.Fix{Kind: 6, Valid: true}}, {"VTG", 8, 5, "1.0009", api.Fix{Kind: 6, Valid: true, Speed: 1000}}, {"VTG", 8, 6, "N", api.Fix{Kind: 6, Valid: true}},
		{"GSV", 3, 1, "9", api.Fix{Kind: 7, Valid: true, Parts: 9, Part: 1, Sats: 8}}, {"GSV", 3, 2, "2", api.Fix{Kind: 7, Valid: true, Parts: 2, Part: 2, Sats: 8}}, {"GSV", 3, 3, "99", api.Fix{Kind: 7, Valid: true, Parts: 2, Part: 1, Sats: 99}},
	} {
		want(t, bodyOf(x.kind, with(blank(x.kind, x.count), x.place, x.s)), x.fix, api.OK)
	}
}

// P10.1: HasPos, of all the ways in which latitude, longitude and their sides are there and are not.
func TestHasPos(t *testing.T) {
	all := []string{"0102.5", "S", "00304.25", "W"}
	for _, x := range []struct {
		kind  string
		count int
		first int
	}{{"RMC", 11, 3}, {"GGA", 14, 2}, {"GLL", 6, 1}} {
		for set := range 16 {
			fields := blank(x.kind, x.count)
			for i, s := range all {
				if set>>i&1 == 1 {
					fields[x.first-1+i] = s
				}
			}
			got, e := Parse(bodyOf(x.kind, fields))
			lat, lon := int64(0), int64(0)
			if set == 15 {
				lat, lon = -6250000, -18425000
			}
			if e != api.OK || got.HasPos != (set == 15) || got.Lat != lat || got.Lon != lon {
				t.Errorf("%s, there are %b: got %+v, %d", x.kind, set, got, e)
			}
		}
	}
}

// P10.1: a position is told of a sentence that is not valid, too.
func TestNotValidTellsAll(t *testing.T) {
	want(t, "GPRMC,010203,V,0102.5,N,00304.25,E,1,2,040506,,", api.Fix{Kind: 1, HasTime: true, HasDate: true, HasPos: true, Time: daytime(1, 2, 3, true), Day: 4, Month: 5, Year: 6, Lat: 6250000, Lon: 18425000, Speed: 1000, Course: 200}, api.OK)
	want(t, "GPGLL,0102.5,N,00304.25,E,010203,V", api.Fix{Kind: 3, HasTime: true, HasPos: true, Time: daytime(1, 2, 3, true), Lat: 6250000, Lon: 18425000}, api.OK)
	want(t, "GPGGA,010203,0102.5,N,00304.25,E,0,3,1,2,M,,,,", api.Fix{Kind: 2, HasTime: true, HasPos: true, Time: daytime(1, 2, 3, true), Lat: 6250000, Lon: 18425000, Sats: 3, HDOP: 100, Height: 2000}, api.OK)
	want(t, "GPGSA,A,1,1,,,,,,,,,,,,1,2,3", api.Fix{Kind: 4, Mode: 1, Sats: 1, PDOP: 100, HDOP: 200, VDOP: 300}, api.OK)
}

// P10.1: HasTime, HasDate and Valid of ZDA, of all the ways in which its fields are there and are not; what is there is told.
func TestZDAHasDate(t *testing.T) {
	for set := range 16 {
		fields := make([]string, 6)
		fix := api.Fix{Kind: api.ZDA}
		if set&1 != 0 {
			fields[0], fix.HasTime, fix.Time = "010203.5", true, daytime(1, 2, 3, false)
		}
		if set&2 != 0 {
			fields[1], fix.Day = "31", 31
		}
		if set&4 != 0 {
			fields[2], fix.Month = "12", 12
		}
		if set&8 != 0 {
			fields[3], fix.Year = "2199", 2199
		}
		fix.HasDate = set&14 == 14
		fix.Valid = set == 15
		want(t, bodyOf("ZDA", fields), fix, api.OK)
	}
}

// P10.1: HasTime, of a time of 0, too; HasDate of RMC, also of the year 0.
func TestHasTimeAtMidnight(t *testing.T) {
	midnight := daytime(0, 0, 0, true)
	want(t, "GPRMC,000000,A,,,,,,,010100,,", api.Fix{Kind: 1, Valid: true, HasTime: true, HasDate: true, Time: midnight, Day: 1, Month: 1}, api.OK)
	want(t, "GPGGA,000000,,,,,,,,,,,,,", api.Fix{Kind: 2, HasTime: true, Time: midnight}, api.OK)
	want(t, "GPGLL,,,,,000000,V", api.Fix{Kind: 3, HasTime: true, Time: midnight}, api.OK)
	want(t, "GPZDA,000000,01,01,1980,,", api.Fix{Kind: 5, Valid: true, HasTime: true, HasDate: true, Time: midnight, Day: 1, Month: 1, Year: 1980}, api.OK)
	want(t, "GPRMC,000000.0,V,,,,,,,,,", api.Fix{Kind: 1, HasTime: true, Time: midnight}, api.OK)
	want(t, "GPRMC,000000.1,V,,,,,,,,,", api.Fix{Kind: 1, HasTime: true}, api.OK)
}

// P10.1: dates are asked no more than layer 9 does.
func TestDatesThatAreNone(t *testing.T) {
	want(t, "GPRMC,,A,,,,,,,310299,,", api.Fix{Kind: 1, Valid: true, HasDate: true, Day: 31, Month: 2, Year: 99}, api.OK)
	want(t, "GPZDA,120060,31,02,2001,,", api.Fix{Kind: 5, Valid: true, HasTime: true, HasDate: true, Time: daytime(12, 0, 60, true), Day: 31, Month: 2, Year: 2001}, api.OK)
}

// P10.1: of GSA, how many satellites are there: all the ways in which they are and are not; the same one twice counts twice.
func TestGSASatellites(t *testing.T) {
	for set := range 1 << 12 {
		fields := blank("GSA", 17)
		count := 0
		for i := range 12 {
			if set>>i&1 == 1 {
				fields[2+i] = "07"
				count++
			}
		}
		want(t, bodyOf("GSA", fields), api.Fix{Kind: 4, Valid: true, Mode: 3, Sats: count}, api.OK)
	}
}

// P10.1: a field may be empty, alone and together with others, but for those that must be there: all the ways in which those of a kind that are looked at are there and are not.
func TestAllThatAreEmpty(t *testing.T) {
	for _, x := range []struct {
		kind   string
		looked int
		needed int // a bit a field, from 1 on
	}{{"RMC", 9, 1 << 2}, {"GGA", 10, 0}, {"GLL", 6, 1 << 6}, {"GSA", 17, 1<<1 | 1<<2}, {"ZDA", 4, 0}, {"VTG", 6, 0}, {"GSV", 3, 1<<1 | 1<<2 | 1<<3}} {
		for set := range 1 << x.looked {
			fields := append([]string(nil), ordinary[x.kind]...)
			empty := set << 1
			for i := 1; i <= x.looked; i++ {
				if empty>>i&1 == 1 {
					fields[i-1] = ""
				}
			}
			body := bodyOf(x.kind, fields)
			if empty&x.needed != 0 {
				wantError(t, body, api.ErrForm)
				continue
			}
			if _, e := Parse(body); e != api.OK {
				t.Fatalf("Parse of %q: got %d", body, e)
			}
			wantAsModel(t, body)
		}
	}
}

// P10.1: which talker it is is nothing to it; all of two capital letters.
func TestEachTalker(t *testing.T) {
	for _, kind := range kindsInOrder {
		body := bodyOf(kind, ordinary[kind])
		fix, e := Parse(body)
		if e != api.OK {
			t.Fatalf("Parse of %q: got %d", body, e)
		}
		for a := 'A'; a <= 'Z'; a++ {
			for b := 'A'; b <= 'Z'; b++ {
				want(t, string(a)+string(b)+body[2:], fix, api.OK)
			}
		}
	}
}

// notLookedAt are the fields of each kind that are not looked at, of sentences that have as many fields as may be.
var notLookedAt = map[string][]int{
	"RMC": {10, 11, 12, 13},
	"GGA": {11, 12, 13, 14},
	"GLL": {7},
	"GSA": {18},
	"ZDA": {5, 6},
	"VTG": {3, 4, 7, 8, 9},
	"GSV": {4, 5, 6, 7, 8, 9, 10, 11, 12, 13, 14, 15, 16, 17, 18, 19, 20},
}

// P10.1: fields that are not looked at may be filled with any bytes, each alone and all at once.
func TestNotLookedAt(t *testing.T) {
	var anything strings.Builder
	for x := range 256 {
		if x != ',' {
			anything.WriteByte(byte(x))
		}
	}
	for _, kind := range kindsInOrder {
		counts := sentences[kind].counts
		fields := ordinaryOf(kind, counts[len(counts)-1])
		fix, e := Parse(bodyOf(kind, fields))
		if e != api.OK {
			t.Fatalf("%s: got %d", kind, e)
		}
		for _, s := range append([]string{anything.String(), strings.Repeat("9", 21), strings.Repeat("x", 70000)}, short...) {
			if strings.Contains(s, ",") {
				continue
			}
			all := fields
			for _, at := range notLookedAt[kind] {
				want(t, bodyOf(kind, with(fields, at, s)), fix, api.OK)
				all = with(all, at, s)
			}
			want(t, bodyOf(kind, all), fix, api.OK)
		}
	}
}

// P10.1: how many fields there are is nothing to what they tell.
func TestSameWithMoreFields(t *testing.T) {
	for _, kind := range kindsInOrder {
		first, e := Parse(bodyOf(kind, ordinary[kind]))
		for _, n := range sentences[kind].counts {
			want(t, bodyOf(kind, ordinaryOf(kind, n)), first, e)
		}
	}
}
