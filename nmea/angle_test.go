package nmea

import (
	"strings"
	"testing"

	"remontoire/api"
)

// wantLat asks for a latitude in the north and in the south, of each kind that has one.
func wantLat(t *testing.T, s string, units int64) {
	t.Helper()
	for _, x := range []struct {
		side string
		sign int64
	}{{"N", 1}, {"S", -1}} {
		rest := s + "," + x.side + ",00000,E,"
		fix := api.Fix{HasPos: true, Lat: x.sign * units}
		wantPos(t, rest, fix)
	}
}

// wantLon asks for a longitude in the east and in the west, of each kind that has one.
func wantLon(t *testing.T, s string, units int64) {
	t.Helper()
	for _, x := range []struct {
		side string
		sign int64
	}{{"E", 1}, {"W", -1}} {
		rest := "0000,N," + s + "," + x.side + ","
		fix := api.Fix{HasPos: true, Lon: x.sign * units}
		wantPos(t, rest, fix)
	}
}

func wantPos(t *testing.T, position string, fix api.Fix) {
	t.Helper()
	fix.Kind = api.RMC
	want(t, "GPRMC,,V,"+position+",,,,", fix, api.OK)
	fix.Kind = api.GGA
	want(t, "GPGGA,,"+position+",,,,,,,,", fix, api.OK)
	fix.Kind = api.GLL
	want(t, "GPGLL,"+position+",V", fix, api.OK)
}

func wantNoLat(t *testing.T, s string) {
	t.Helper()
	wantError(t, "GPRMC,,V,"+s+",N,00000,E,,,,,", api.ErrForm)
	wantError(t, "GPRMC,,V,"+s+",,,,,,,,", api.ErrForm)
	wantError(t, "GPGGA,,"+s+",S,00000,E,,,,,,,,,", api.ErrForm)
	wantError(t, "GPGLL,"+s+",N,00000,W,,V", api.ErrForm)
}

func wantNoLon(t *testing.T, s string) {
	t.Helper()
	wantError(t, "GPRMC,,V,0000,N,"+s+",E,,,,,", api.ErrForm)
	wantError(t, "GPRMC,,V,,,"+s+",,,,,,", api.ErrForm)
	wantError(t, "GPGGA,,0000,S,"+s+",E,,,,,,,,,", api.ErrForm)
	wantError(t, "GPGLL,0000,N,"+s+",W,,V", api.ErrForm)
}

// P10.1: latitudes, in 1/100000 minutes.
func TestLatitudes(t *testing.T) {
	for s, units := range map[string]int64{
		"0000": 0, "0000.0": 0, "0000.00000": 0, "0000.00001": 1, "0000.000009": 0, "0000.000019": 1, "0000.1": 10000, "0001": 100000, "0059": 5900000, "0059.99999": 5999999, "0059.999999": 5999999, "0100": 6000000,
		"4807.038": 288703800, "4807.03812": 288703812, "4807.038129": 288703812, "4916.45": 295645000, "8900": 534000000, "8959": 539900000, "8959.99999": 539999999, "8959.9999999": 539999999,
		"9000": 540000000, "9000.0": 540000000, "9000.00000": 540000000,
		// What is beyond the places is left away, also at 90 degrees.
		"9000.000009": 540000000, "9000.00000999999999999": 540000000,
		// From the minutes on 20 bytes.
		"4807.00000000000000000": 288700000, "4807.12345678901234567": 288712345, "8959.99999999999999999": 539999999,
	} {
		wantLat(t, s, units)
	}
	for _, s := range latitudes.bad {
		if !strings.Contains(s, ",") {
			wantNoLat(t, s)
		}
	}
	for _, s := range longitudes.good {
		wantNoLat(t, s)
	}
}

// P10.1: longitudes, in 1/100000 minutes.
func TestLongitudes(t *testing.T) {
	for s, units := range map[string]int64{
		"00000": 0, "00000.0": 0, "00000.00000": 0, "00000.00001": 1, "00000.000009": 0, "00000.000019": 1, "00000.1": 10000, "00001": 100000, "00059": 5900000, "00059.99999": 5999999, "00059.999999": 5999999, "00100": 6000000,
		"01131.000": 69100000, "12311.12": 739112000, "08959.99999": 539999999, "09000": 540000000, "09000.00001": 540000001, "09900": 594000000, "10000": 600000000, "17900": 1074000000, "17959": 1079900000, "17959.99999": 1079999999, "17959.9999999": 1079999999,
		"18000": 1080000000, "18000.0": 1080000000, "18000.00000": 1080000000,
		"18000.000009": 1080000000, "18000.00000999999999999": 1080000000,
		"01131.00000000000000000": 69100000, "01131.12345678901234567": 69112345, "17959.99999999999999999": 1079999999,
	} {
		wantLon(t, s, units)
	}
	for _, s := range longitudes.bad {
		if !strings.Contains(s, ",") {
			wantNoLon(t, s)
		}
	}
	for _, s := range latitudes.good {
		wantNoLon(t, s)
	}
}

// P10.1: all degrees and minutes.
func TestAllDegreesAndMinutes(t *testing.T) {
	for n := range 100000 {
		s := string([]byte{byte('0' + n/10000), byte('0' + n/1000%10), byte('0' + n/100%10), byte('0' + n/10%10), byte('0' + n%10)})
		degrees, minutes := int64(n/100), int64(n%100)
		units := degrees*6000000 + minutes*100000
		for _, behind := range []string{"", ".00000", ".00001"} {
			more := int64(strings.Count(behind, "1"))
			lat := "GPGLL," + s[1:] + behind + ",N,00000,W,,V"
			lon := "GPGLL,0000,N," + s + behind + ",W,,V"
			if n < 10000 {
				if minutes < 60 && units+more <= 540000000 {
					want(t, lat, api.Fix{Kind: 3, HasPos: true, Lat: units + more}, api.OK)
				} else {
					wantError(t, lat, api.ErrForm)
				}
			}
			if minutes < 60 && units+more <= 1080000000 {
				want(t, lon, api.Fix{Kind: 3, HasPos: true, Lon: -units - more}, api.OK)
			} else {
				wantError(t, lon, api.ErrForm)
			}
		}
	}
}

// P10.1: each byte as a side; the sign is that of its own angle alone.
func TestSides(t *testing.T) {
	for x := range 256 {
		if x == ',' {
			continue
		}
		one := string([]byte{byte(x)})
		lat := "GPGLL,0001," + one + ",00002,E,,V"
		lon := "GPGLL,0001,N,00002," + one + ",,V"
		switch one {
		case "N":
			want(t, lat, api.Fix{Kind: 3, HasPos: true, Lat: 100000, Lon: 200000}, api.OK)
			wantError(t, lon, api.ErrForm)
		case "S":
			want(t, lat, api.Fix{Kind: 3, HasPos: true, Lat: -100000, Lon: 200000}, api.OK)
			wantError(t, lon, api.ErrForm)
		case "E":
			wantError(t, lat, api.ErrForm)
			want(t, lon, api.Fix{Kind: 3, HasPos: true, Lat: 100000, Lon: 200000}, api.OK)
		case "W":
			wantError(t, lat, api.ErrForm)
			want(t, lon, api.Fix{Kind: 3, HasPos: true, Lat: 100000, Lon: -200000}, api.OK)
		default:
			wantError(t, lat, api.ErrForm)
			wantError(t, lon, api.ErrForm)
		}
	}
}
