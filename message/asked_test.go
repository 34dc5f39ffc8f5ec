package message

import (
	"bytes"
	"strings"
	"testing"

	"remontoire/api"
)

// P15.1: a frame of each of the eleven kinds, and all of its message.
func TestEachKind(t *testing.T) {
	frames, messages := told()
	kinds := []uint8{api.MsgRMC, api.MsgZDA, api.MsgPVT, api.MsgTimeGPS, api.MsgTimeUTC, api.MsgTimTP, api.MsgSirf2, api.MsgSirf4, api.MsgSirf7, api.MsgSirf41, api.MsgSirf52}
	if len(frames) != len(kinds) {
		t.Fatalf("%d frames, want %d", len(frames), len(kinds))
	}
	for i, f := range frames {
		if messages[i].Kind != kinds[i] {
			t.Errorf("message %d is of kind %d, want %d", i, messages[i].Kind, kinds[i])
		}
		want(t, f, messages[i], true)
		wantAsModel(t, f)
	}
}

// P15.1: the chapter's known answers.
func TestExamples(t *testing.T) {
	want(t, sentence("GPRMC,000005,A,,,,,,,010120,,"), api.Msg{Kind: api.MsgRMC, UTC: true, Sec: 3_786_825_605, Cycle: 100}, true)
	tp := []byte{13, 1, 0x70, 0x17, 0, 0, 0, 0, 0, 0, 0, 0, 0, 0, 0xD0, 7, 0, 0}
	want(t, api.Frame{Kind: api.FrameUBX, Body: tp}, api.Msg{Kind: api.MsgTimTP, Sec: 1_209_600_006, Next: true}, true)
}

// P15.1: bodies written out byte by byte.
func TestByHand(t *testing.T) {
	body := func(length int, head ...byte) []byte { return append(head, make([]byte, length-len(head))...) }
	utc := body(22, 1, 33, 9, 9, 9, 9, 8, 8, 8, 8, 0, 0, 0, 0, 0xE0, 7, 12, 31, 23, 59, 60, 4)
	want(t, api.Frame{Kind: api.FrameUBX, Body: utc}, api.Msg{Kind: 5, UTC: true, Sec: 3_692_217_599, Leap: true}, true)
	gps := body(18, 1, 32, 0xE8, 3, 0, 0, 0, 0, 0, 0, 1, 0, 18, 3)
	want(t, api.Frame{Kind: api.FrameUBX, Body: gps}, api.Msg{Kind: 4, Sec: 604_801}, true)
	pvt := body(94, 1, 7, 1, 2, 3, 4, 0xE4, 7, 1, 1, 0, 0, 5, 7, 9, 9, 9, 9, 0, 0, 0, 0, 4, 1)
	want(t, api.Frame{Kind: api.FrameUBX, Body: pvt}, api.Msg{Kind: 3, UTC: true, Sec: 3_786_825_605}, true)
	pps := body(19, 52, 23, 59, 60, 31, 12, 7, 0xE0, 0, 18, 0, 0, 0, 0, 7)
	want(t, api.Frame{Kind: api.FrameSiRF, Body: pps}, api.Msg{Kind: 11, UTC: true, Sec: 3_692_217_599, Leap: true}, true)
	geodetic := body(91, 41, 0, 0, 0, 4, 9, 9, 9, 9, 9, 9, 7, 0xE0, 12, 31, 23, 59, 0xEA, 0x60)
	want(t, api.Frame{Kind: api.FrameSiRF, Body: geodetic}, api.Msg{Kind: 10, UTC: true, Sec: 3_692_217_599, Leap: true}, true)
	status := body(20, 7, 7, 0xD0, 0, 0, 2, 0xBC, 4)
	want(t, api.Frame{Kind: api.FrameSiRF, Body: status}, api.Msg{Kind: 9, Sec: 1_209_600_007}, true)
	tracker := body(188, 4, 0xFF, 0xFF, 0, 0, 2, 0xBC, 12)
	want(t, api.Frame{Kind: api.FrameSiRF, Body: tracker}, api.Msg{Kind: 8, Sec: 1023*604_800 + 7, Cycle: 1024}, true)
	navigation := body(41, 2, 1, 1, 1, 1, 1, 1, 1, 1, 1, 1, 1, 1, 1, 1, 1, 1, 1, 1, 0x86, 1, 1, 0x07, 0xD0, 0, 0, 2, 0xBC, 1)
	want(t, api.Frame{Kind: api.FrameSiRF, Body: navigation}, api.Msg{Kind: 7, Sec: 976*604_800 + 7, Cycle: 1024}, true)
}

// P15.1: of valid, flags, mode and status the bits that are asked alone, at all values: each bit set and not set.
func TestBitsAsked(t *testing.T) {
	for _, x := range []struct {
		shape, field string
		asked        int64
		may          []int64
	}{
		{"PVT", "valid", 7, []int64{7}},
		{"PVT", "flags", 1, []int64{1}},
		{"TIMEGPS", "valid", 3, []int64{3}},
		{"TIMEUTC", "valid", 4, []int64{4}},
		{"TIM-TP", "flags", 1, []int64{0}},
		{"SIRF2", "mode", 7, []int64{3, 4, 5, 6}},
		{"SIRF52", "status", 3, []int64{3}},
	} {
		s := named(x.shape)
		v, m := ordinaryOf(x.shape)
		for value := range int64(256) {
			ok := false
			for _, may := range x.may {
				ok = ok || value&x.asked == may
			}
			f := s.with(v, values{x.field: value})
			wantIf(t, f, m, ok)
			wantAsModel(t, f)
		}
	}
}

// P15.1: the numbers that are asked, at all values of a byte, and at the edges of longer ones.
func TestNumbersAsked(t *testing.T) {
	bytesAll := make([]int64, 256)
	for i := range bytesAll {
		bytesAll[i] = int64(i)
	}
	words := make([]int64, 65536)
	for i := range words {
		words[i] = int64(i)
	}
	signed := []int64{-1 << 31, -1<<31 + 1, -1 << 24, -65536, -256, -255, -1, 0, 1, 255, 256, 65535, 65536, 1 << 24, 1<<31 - 1}
	for _, x := range []struct {
		shape, field string
		values       []int64
		least, most  int64
	}{
		{"PVT", "fix", bytesAll, 3, 5},
		{"PVT", "nano", signed, 0, 0},
		{"TIMEGPS", "fraction", signed, 0, 0},
		{"TIMEUTC", "nano", signed, 0, 0},
		{"TIM-TP", "below", []int64{0, 1, 2, 255, 256, 65536, 1 << 24, 1<<31 - 1, 1 << 31, 1<<32 - 1}, 0, 0},
		{"SIRF4", "channels", bytesAll, 4, 255},
		{"SIRF7", "satellites", bytesAll, 4, 255},
		{"SIRF41", "not valid", words, 0, 0},
	} {
		s := named(x.shape)
		v, m := ordinaryOf(x.shape)
		for _, value := range x.values {
			f := s.with(v, values{x.field: value})
			wantIf(t, f, m, value >= x.least && value <= x.most)
			wantAsModel(t, f)
		}
	}
}

// looked are the fields of each shape that are looked at: all others are nothing to what is told.
var looked = map[string]string{
	"PVT":     "year month day hour minute second valid nano fix flags",
	"TIMEGPS": "TOW fraction week valid",
	"TIMEUTC": "nano year month day hour minute second valid",
	"TIM-TP":  "TOW below week flags",
	"SIRF2":   "mode week TOW",
	"SIRF4":   "week TOW channels",
	"SIRF7":   "week TOW satellites",
	"SIRF41":  "not-valid year month day hour minute second",
	"SIRF52":  "hour minute second day month year status",
}

// P15.1: a byte of a field that is not looked at, or of no field, may be any.
func TestNotLookedAt(t *testing.T) {
	for _, x := range ordinary {
		s := named(x.shape)
		f := s.with(x.values)
		isLooked := make([]bool, len(f.Body))
		for _, name := range strings.Fields(looked[s.name]) {
			e := s.field(strings.ReplaceAll(name, "-", " "))
			for i := range e.length {
				isLooked[s.digit(e, i)] = true
			}
		}
		for i := range s.head {
			isLooked[i] = true
		}
		all := bytes.Clone(f.Body)
		for at := range all {
			if isLooked[at] {
				continue
			}
			all[at] = 255
			for value := range 256 {
				one := bytes.Clone(f.Body)
				one[at] = byte(value)
				want(t, api.Frame{Kind: s.frame, Body: one}, x.told, true)
			}
		}
		want(t, api.Frame{Kind: s.frame, Body: all}, x.told, true)
	}
}

// P15.1: what RMC is asked: each of it alone fails.
func TestRMCAsked(t *testing.T) {
	for _, f := range []struct {
		body string
		ok   bool
	}{
		{"GPRMC,123519,A,,,,,,,230394,,", true},
		{"GPRMC,123519.0,A,,,,,,,230394,,", true},
		{"GPRMC,123519.0000000000000,A,,,,,,,230394,,", true},
		{"GPRMC,123519,V,,,,,,,230394,,", false}, // not Valid
		{"GPRMC,123519,,,,,,,,230394,,", false},
		{"GPRMC,,A,,,,,,,230394,,", false}, // no HasTime
		{"GPRMC,123519,A,,,,,,,,,", false}, // no HasDate
		{"GPRMC,,A,,,,,,,,,", false},
		{"GPRMC,123519.5,A,,,,,,,230394,,", false}, // not Whole
		{"GPRMC,123519.01,A,,,,,,,230394,,", false},
		{"GPRMC,123519.0000000000001,A,,,,,,,230394,,", false},
		{"GPRMC,123518.999,A,,,,,,,230394,,", false},
	} {
		wantIf(t, sentence(f.body), toldRMC, f.ok)
		wantAsModel(t, sentence(f.body))
	}
}

// P15.1: what ZDA is asked: each of it alone fails.
func TestZDAAsked(t *testing.T) {
	for _, f := range []struct {
		body string
		ok   bool
	}{
		{"GPZDA,201530,04,07,2002,00,00", true},
		{"GPZDA,201530,4,7,2002,,", true},
		{"GPZDA,201530.000,0004,007,2002,-13,59", true},
		{"GPZDA,,04,07,2002,00,00", false}, // not Valid, as one of them is not there
		{"GPZDA,201530,,07,2002,00,00", false},
		{"GPZDA,201530,04,,2002,00,00", false},
		{"GPZDA,201530,04,07,,00,00", false},
		{"GPZDA,,,,,00,00", false},
		{"GPZDA,201530.1,04,07,2002,00,00", false}, // not Whole
		{"GPZDA,201530.001,04,07,2002,00,00", false},
		{"GPZDA,201529.99,04,07,2002,00,00", false},
	} {
		wantIf(t, sentence(f.body), toldZDA, f.ok)
		wantAsModel(t, sentence(f.body))
	}
}

// P15.1: what an RMC sentence has beside time, date and status is nothing, as long as layer 10 takes it.
func TestRMCBeside(t *testing.T) {
	for _, x := range []struct {
		body string
		ok   bool
	}{
		{"GPRMC,123519,A,4807.038,S,01131.000,W,022.4,084.4,230394,,", true},
		{"GPRMC,123519,A,,,,,,,230394,any,thing,at all", true},
		{"GPRMC,123519,A,,,,,,,230394,,,,,", false},
		{"GPRMC,123519,A,,,,,,,230394,,", true},
		{"GPRMC,123519,A,,,,,,,230394,", false}, // ten fields alone
		{"GPRMC,123519,A,9100.0,N,,,,,230394,,", false},
		{"GPRMC,123519,A,,X,,,,,230394,,", false},
		{"GPRMC,123519,A,,,,,-1,,230394,,", false},
	} {
		wantIf(t, sentence(x.body), toldRMC, x.ok)
		wantAsModel(t, sentence(x.body))
	}
}
