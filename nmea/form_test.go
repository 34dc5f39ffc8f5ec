package nmea

import (
	"slices"
	"strconv"
	"strings"
	"testing"

	"remontoire/api"
)

// P10.1: ErrNone of first fields that are none of these, whatever stands behind.
func TestFirstField(t *testing.T) {
	for _, first := range []string{
		"", "R", "RM", "RMC", "GRMC", "GP", "GPR", "GPRM", "GPRMCX", "GPRMCA", "GPSRMC", "XGPRMC", "GPRMCRMC", "GGA", "ZDA", "GGGA", "ZZDA",
		"gpRMC", "GpRMC", "gPRMC", "GPrmc", "GPRmC", "gprmc", "GPzda", " GPRMC", "GPRMC ", "GPRMC\x00", "\x00GPRM", "$GPRMC", "GPRMC*", "GP RMC", "GPRM C",
		"GPTXT", "GPGNS", "GPGST", "GPGBS", "GPGRS", "GPDTM", "GPRMB", "GPHDT", "GPRMA", "GPXXX", "GPGLLA", "GPGG", "GPGL", "GPVT", "PUBX", "PSRF103", "PMTK001", "RMCGP", "GPCMR", "GPAGG",
		"1PRMC", "G1RMC", "11RMC", "@PRMC", "[PRMC", "G@RMC", "G[RMC", "`PRMC", "-PRMC", "G\xd0RMC", "\xffPRMC", "ÄRMC", "ÄÖRMC", "Ä", "1", "123519", "A",
	} {
		wantError(t, first, api.ErrNone)
		for n := range 25 {
			wantError(t, first+strings.Repeat(",", n), api.ErrNone)
		}
		for _, kind := range kindsInOrder {
			wantError(t, first+","+strings.Join(ordinary[kind], ","), api.ErrNone)
		}
		wantError(t, first+",x,x,x,x,x,x,x,x,x,x,x", api.ErrNone)
	}
}

// P10.1: each byte in each place of a first field.
func TestEachByteOfFirstField(t *testing.T) {
	for _, kind := range kindsInOrder {
		rest := "," + strings.Join(ordinary[kind], ",")
		fix, _ := Parse("GP" + kind + rest)
		for place := range 5 {
			for x := range 256 {
				first := []byte("GP" + kind)
				first[place] = byte(x)
				body := string(first) + rest
				talker := place < 2 && x >= 'A' && x <= 'Z'
				switch third := string(first[2:]); {
				case talker || string(first) == "GP"+kind:
					want(t, body, fix, api.OK)
				case place >= 2 && slices.Contains(kindsInOrder, third):
					// One byte makes a GSA sentence a GGA one, or a GSV one.
					wantAsModel(t, body)
				default:
					wantError(t, body, api.ErrNone)
				}
			}
		}
	}
}

// P10.1: how many fields each kind may have.
func TestCounts(t *testing.T) {
	for _, x := range []struct {
		kind        string
		least, most int
	}{{"RMC", 11, 13}, {"GGA", 14, 14}, {"GLL", 6, 7}, {"GSA", 17, 18}, {"ZDA", 6, 6}, {"VTG", 8, 9}, {"GSV", 3, 20}} {
		for n := range 60 {
			body := bodyOf(x.kind, ordinaryOf(x.kind, n))
			wrong := bodyOf(x.kind, strings.Split(strings.Repeat("\xff", n), ""))
			switch {
			case n < x.least:
				// Ahead of any field that may not be.
				wantError(t, body, api.ErrShort)
				wantError(t, wrong, api.ErrShort)
			case n > x.most:
				wantError(t, body, api.ErrLong)
				wantError(t, wrong, api.ErrLong)
			case x.kind == "GSV" && (n%4 == 1 || n%4 == 2):
				wantError(t, body, api.ErrForm)
				wantError(t, wrong, api.ErrForm)
			default:
				if _, e := Parse(body); e != api.OK {
					t.Errorf("%s of %d fields: got %d", x.kind, n, e)
				}
				wantError(t, wrong, api.ErrForm)
			}
		}
	}
}

// P10.1: of GSV all counts, written out.
func TestGSVCounts(t *testing.T) {
	for n, e := range []api.Errno{
		api.ErrShort, api.ErrShort, api.ErrShort, api.OK, api.OK, api.ErrForm, api.ErrForm, api.OK, api.OK, api.ErrForm, api.ErrForm, api.OK, api.OK,
		api.ErrForm, api.ErrForm, api.OK, api.OK, api.ErrForm, api.ErrForm, api.OK, api.OK, api.ErrLong, api.ErrLong, api.ErrLong, api.ErrLong,
	} {
		fix := api.Fix{Kind: 7, Valid: true, Parts: 2, Part: 1, Sats: 8}
		if e != api.OK {
			fix = api.Fix{}
		}
		want(t, bodyOf("GSV", ordinaryOf("GSV", n)), fix, e)
		if n > 0 {
			// The first three are empty.
			empty := e
			if e == api.OK {
				empty = api.ErrForm
			}
			wantError(t, "GPGSV"+strings.Repeat(",", n), empty)
		}
	}
}

// P10.1, P1: where several errors apply, the kind ahead of the count, the count ahead of the fields.
func TestWhichError(t *testing.T) {
	wantError(t, "GPXXX", api.ErrNone)
	wantError(t, "GPXXX,x", api.ErrNone)
	wantError(t, "GPZDA,246000,99", api.ErrShort)
	wantError(t, "GPZDA,246000,99,99,1,0,0,0", api.ErrLong)
	wantError(t, "GPZDA,246000,99,99,1,0,0", api.ErrForm)
	wantError(t, "GPZDA", api.ErrShort)
	wantError(t, "GPRMC,,,,,,,,,,", api.ErrShort)
	wantError(t, "GPRMC,,,,,,,,,,,", api.ErrForm)
	wantError(t, "GPRMC,,,,,,,,,,,,,", api.ErrForm)
	wantError(t, "GPRMC,,,,,,,,,,,,,,", api.ErrLong)
	wantError(t, "GPGSV,0,0", api.ErrShort)
	wantError(t, "GPGSV,0,0,100,1,2", api.ErrForm)
	wantError(t, "GPGSV"+strings.Repeat(",x", 21), api.ErrLong)
	wantError(t, "GPGSV"+strings.Repeat(",x", 22), api.ErrLong)
	wantError(t, strings.Repeat(",", 1<<20), api.ErrNone)
	wantError(t, "GPRMC"+strings.Repeat(",", 1<<20), api.ErrLong)
	wantError(t, "GPGSV"+strings.Repeat(",", 1<<20), api.ErrLong)
	wantError(t, "GPRMC"+strings.Repeat("X", 1<<20), api.ErrNone)
	wantError(t, strings.Repeat("A", 1<<20), api.ErrNone)
}

// Texts that a field may be, and such that it may not be, though it is not empty.
type texts struct{ good, bad []string }

// What layer 9 does not take as a number, whatever its bounds are.
var noNumber = []string{"-1", "+1", "-", "+", " 1", "1 ", "1.", "1.0", ".", "A", "1A", "0x1", "1e0", "\x00", "1\x00", "\xff", "٣", "000000000000000000001", "18446744073709551617"}

// What layer 9 does not take as a number with a point; with a - ahead it may be, but for heights alone.
var noFixed = []string{"+1", "-", "+", "--1", "1-", " 1", "1 ", "1.", ".1", ".", "1..2", "1.2.3", "1.-2", "A", "1A", "1e3", "0x1", "1_0", "\x00", "1.5\x00", "\xff", "٣", "1000000000", "0000000001", "1000000000.5", "1.2345678901234567890", "000000000000000000001", "123456789012345678901"}

var noUnsigned = append([]string{"-1", "-0", "-0.0", "-0.5", "-22.4", "-999999999", "-0.00001"}, noFixed...)

var (
	clocks = texts{
		[]string{"000000", "235959", "235960", "000060", "123519.0", "123519.5", "235960.99", "123519.0000000000000"},
		[]string{"240000", "236000", "235961", "246000", "12351", "1235190", "123519.", ".5", "123519.A", "12:35:19", " 12351", "-12351", "+12351", "12351A", "A", "\xff", "123519.00000000000000", "123519.0.0"},
	}
	counts     = texts{[]string{"0", "00", "7", "07", "99", "099", "00000000000000000099"}, append([]string{"100", "999", "0100"}, noNumber...)}
	satellites = texts{[]string{"1", "01", "001", "999", "0999", "00000000000000000001"}, append([]string{"0", "000", "1000", "01000"}, noNumber...)}
	modes      = texts{[]string{"1", "2", "3", "01", "003"}, append([]string{"0", "4", "00", "10", "13"}, noNumber...)}
	parts      = texts{[]string{"2", "3", "9", "09"}, append([]string{"0", "00", "10", "11", "19"}, noNumber...)}
	unsigned   = texts{[]string{"0", "0.0", "1", "022.4", "999999999", "999999999.999", "0.00001", "1.234567890123456789", "000000001"}, noUnsigned}
	heights    = texts{[]string{"0", "-0", "-0.5", "545.4", "-31.6", "999999999.999", "-999999999.999", "-1.23456789012345678"}, noFixed}
	statuses   = letters("AV")
	souths     = letters("NS")
	wests      = letters("EW")
	latitudes  = texts{
		[]string{"0000", "0000.0", "4807.038", "8959.99999", "8959.999999999", "9000", "9000.0", "9000.00000", "4807.12345678901234567"},
		[]string{"9000.00001", "9000.1", "9001", "9059", "9100", "9900", "4860", "4860.0", "4899", "8960", "480", "48", "4", "4807.", "480.5", "48.5", "4.5", ".5", ".", "04807.0", "4807.0.1", "4807,", "-807.0", "+807.0", "48-7.0", "48+7.0", "48-0", "48 7", "4x07", "x807", "48x7", "480x", "4807.x", "4807.-1", "4807N", " 4807", "4807 ", "\xff", "4807\x00", "4807.123456789012345678", "0000.000000000000000000", "00000", "11111.0"},
	}
	longitudes = texts{
		[]string{"00000", "00000.0", "01131.000", "17959.99999", "17959.999999999", "18000", "18000.0", "18000.00000", "01131.12345678901234567"},
		[]string{"18000.00001", "18000.1", "18001", "18059", "18100", "19900", "99900", "01160", "01160.0", "01199", "17960", "0113", "011", "01", "0", "01131.", "0113.5", "011.5", "01.5", ".5", ".", "001131.0", "01131.0.1", "-1131.0", "+1131.0", "011-1.0", "011+1.0", "011-0", "011 1", "0x131", "x1131", "011x1", "0113x", "01131.x", "01131.-1", "01131E", " 01131", "01131 ", "\xff", "01131\x00", "01131.123456789012345678", "00000.000000000000000000", "0000", "000000"},
	}
	dates = texts{
		[]string{"010100", "311299", "230394", "310201"},
		[]string{"000101", "320101", "010001", "011301", "01010", "0101011", "-10101", "01 101", "0101.1", "010101.", "A10101", "\xff", "01012001", "000000"},
	}
	days   = texts{[]string{"1", "01", "001", "31", "00000000000000000031"}, append([]string{"0", "00", "32", "99", "032"}, noNumber...)}
	months = texts{[]string{"1", "01", "001", "12", "00000000000000000012"}, append([]string{"0", "00", "13", "99", "013"}, noNumber...)}
	years  = texts{[]string{"1980", "1999", "2000", "2100", "2199"}, append([]string{"1979", "2200", "0", "0000", "9999", "80", "02", "980", "198", "01980", "02000", "002199", "00000000000000002000", "19800", "2000.", "200.", " 2000", "-2000", "-200", "+200", "2e03"}, noNumber...)}
)

// letters are all texts of one byte, and some longer ones; those may be that are a byte of one text.
func letters(of string) texts {
	first := of[:1]
	out := texts{bad: []string{of + of, first + first, first + " ", " " + first, first + "\x00", strings.Repeat(first, 20), strings.Repeat(first, 21), "Ä"}}
	if len(of) > 1 {
		out.bad = append(out.bad, of)
	}
	for x := range 256 {
		one := string([]byte{byte(x)})
		switch {
		case x == ',':
		case strings.Contains(of, one):
			out.good = append(out.good, one)
		default:
			out.bad = append(out.bad, one)
		}
	}
	return out
}

// eachField are the fields that are looked at, and what they may be.
var eachField = map[string]map[int]texts{
	"RMC": {1: clocks, 2: statuses, 3: latitudes, 4: souths, 5: longitudes, 6: wests, 7: unsigned, 8: unsigned, 9: dates},
	"GGA": {1: clocks, 2: latitudes, 3: souths, 4: longitudes, 5: wests, 6: {[]string{"0", "1", "8", "08", "00000000000000000008"}, append([]string{"9", "10", "18", "009"}, noNumber...)}, 7: counts, 8: unsigned, 9: heights, 10: letters("M")},
	"GLL": {1: latitudes, 2: souths, 3: longitudes, 4: wests, 5: clocks, 6: statuses},
	"GSA": {1: letters("AM"), 2: modes, 3: satellites, 4: satellites, 5: satellites, 6: satellites, 7: satellites, 8: satellites, 9: satellites, 10: satellites, 11: satellites, 12: satellites, 13: satellites, 14: satellites, 15: unsigned, 16: unsigned, 17: unsigned},
	"ZDA": {1: clocks, 2: days, 3: months, 4: years},
	"VTG": {1: unsigned, 2: letters("T"), 5: unsigned, 6: letters("N")},
	"GSV": {1: parts, 2: {[]string{"1", "2", "01", "00000000000000000002"}, append([]string{"0", "3", "9", "10", "03"}, noNumber...)}, 3: counts},
}

// P10.1: of each field that is looked at what it may be and what it may not be, with the others there and, where that may be, not there.
func TestEachFieldMayBeOrNot(t *testing.T) {
	for _, kind := range kindsInOrder {
		for at, of := range eachField[kind] {
			for _, n := range sentences[kind].counts {
				for _, fields := range [][]string{ordinaryOf(kind, n), blank(kind, n)} {
					for _, s := range of.good {
						body := bodyOf(kind, with(fields, at, s))
						if _, e := Parse(body); e != api.OK {
							t.Errorf("Parse of %q: got %d", body, e)
						}
					}
					for _, s := range of.bad {
						if !strings.Contains(s, ",") {
							wantError(t, bodyOf(kind, with(fields, at, s)), api.ErrForm)
						}
					}
				}
			}
		}
	}
}

// P10.1, P1: two fields that may not be are one error, and one that is as it must be does not make another one good.
func TestTwoThatMayNotBe(t *testing.T) {
	for _, kind := range kindsInOrder {
		n := len(ordinary[kind])
		for at := range eachField[kind] {
			for other := range eachField[kind] {
				fields := with(with(ordinaryOf(kind, n), at, "\xff"), other, strings.Repeat("0", 21))
				wantError(t, bodyOf(kind, fields), api.ErrForm)
				if other != at {
					wantError(t, bodyOf(kind, with(with(ordinaryOf(kind, n), at, "?"), other, "")), api.ErrForm)
				}
			}
		}
	}
}

// P10.1: the part is from 1 to the parts, for all of both.
func TestPartOfParts(t *testing.T) {
	for parts := range 12 {
		for part := range 12 {
			body := "GPGSV," + strconv.Itoa(parts) + "," + strconv.Itoa(part) + ",0"
			if parts < 1 || parts > 9 || part < 1 || part > parts {
				wantError(t, body, api.ErrForm)
				continue
			}
			want(t, body, api.Fix{Kind: 7, Valid: true, Parts: parts, Part: part}, api.OK)
		}
	}
}

// P10.1: years and what they tell at the edges.
func TestYears(t *testing.T) {
	for year := range 10000 {
		s := string([]byte{byte('0' + year/1000), byte('0' + year/100%10), byte('0' + year/10%10), byte('0' + year%10)})
		body := "GPZDA,,,," + s + ",,"
		if year < 1980 || year > 2199 {
			wantError(t, body, api.ErrForm)
		} else {
			want(t, body, api.Fix{Kind: 5, Year: year}, api.OK)
		}
		wantError(t, "GPZDA,,,,0"+s+",,", api.ErrForm)
		wantError(t, "GPZDA,,,,"+s[1:]+",,", api.ErrForm)
	}
}

// P10.1: all numbers of three digits and what they tell.
func TestNumbers(t *testing.T) {
	for n := range 1000 {
		s := string([]byte{byte('0' + n/100), byte('0' + n/10%10), byte('0' + n%10)})
		for _, x := range []struct {
			ahead, behind string
			least, most   int
			fix           api.Fix
		}{
			{"GPGGA,,,,,,", ",,,,,,,,", 0, 8, api.Fix{Kind: 2, Valid: n > 0, Quality: n}},
			{"GPGGA,,,,,,,", ",,,,,,,", 0, 99, api.Fix{Kind: 2, Sats: n}},
			{"GPGSA,A,", ",,,,,,,,,,,,,,,", 1, 3, api.Fix{Kind: 4, Valid: n > 1, Mode: n}},
			{"GPGSA,A,1,", ",,,,,,,,,,,,,,", 1, 999, api.Fix{Kind: 4, Mode: 1, Sats: 1}},
			{"GPZDA,,", ",,,,", 1, 31, api.Fix{Kind: 5, Day: n}},
			{"GPZDA,,,", ",,,", 1, 12, api.Fix{Kind: 5, Month: n}},
			{"GPGSV,", ",1,0", 1, 9, api.Fix{Kind: 7, Valid: true, Parts: n, Part: 1}},
			{"GPGSV,9,", ",0", 1, 9, api.Fix{Kind: 7, Valid: true, Parts: 9, Part: n}},
			{"GPGSV,1,1,", "", 0, 99, api.Fix{Kind: 7, Valid: true, Parts: 1, Part: 1, Sats: n}},
		} {
			if n < x.least || n > x.most {
				wantError(t, x.ahead+s+x.behind, api.ErrForm)
				continue
			}
			want(t, x.ahead+s+x.behind, x.fix, api.OK)
		}
	}
}

// P10.1: the places of numbers with a point, of each field; what is beyond them is left away.
func TestPlaces(t *testing.T) {
	for _, x := range []struct {
		s                       string
		hundredths, thousandths int64
	}{
		{"0", 0, 0}, {"0.001", 0, 1}, {"0.0009", 0, 0}, {"0.009", 0, 9}, {"0.01", 1, 10}, {"0.999", 99, 999}, {"0.99999", 99, 999}, {"1", 100, 1000}, {"1.5", 150, 1500}, {"12.3456", 1234, 12345}, {"099.9999999999999999", 9999, 99999},
		{"359.99", 35999, 359990}, {"999999999", 99999999900, 999999999000}, {"999999999.999999999", 99999999999, 999999999999},
	} {
		want(t, "GPRMC,,V,,,,,"+x.s+",,,,", api.Fix{Kind: 1, Speed: x.thousandths}, api.OK)
		want(t, "GPRMC,,V,,,,,,"+x.s+",,,", api.Fix{Kind: 1, Course: x.hundredths}, api.OK)
		want(t, "GPGGA,,,,,,,,"+x.s+",,,,,,", api.Fix{Kind: 2, HDOP: x.hundredths}, api.OK)
		want(t, "GPGGA,,,,,,,,,"+x.s+",,,,,", api.Fix{Kind: 2, Height: x.thousandths}, api.OK)
		want(t, "GPGSA,A,1,,,,,,,,,,,,,"+x.s+",,", api.Fix{Kind: 4, Mode: 1, PDOP: x.hundredths}, api.OK)
		want(t, "GPGSA,A,1,,,,,,,,,,,,,,"+x.s+",", api.Fix{Kind: 4, Mode: 1, HDOP: x.hundredths}, api.OK)
		want(t, "GPGSA,A,1,,,,,,,,,,,,,,,"+x.s, api.Fix{Kind: 4, Mode: 1, VDOP: x.hundredths}, api.OK)
		want(t, "GPVTG,"+x.s+",,,,,,,", api.Fix{Kind: 6, Valid: true, Course: x.hundredths}, api.OK)
		want(t, "GPVTG,,,,,"+x.s+",,,", api.Fix{Kind: 6, Valid: true, Speed: x.thousandths}, api.OK)
		if len(x.s) < 20 {
			want(t, "GPGGA,,,,,,,,,-"+x.s+",,,,,", api.Fix{Kind: 2, Height: -x.thousandths}, api.OK)
		}
	}
}
