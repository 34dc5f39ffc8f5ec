package message

import (
	"bytes"
	"math/rand"
	"strings"
	"testing"

	"remontoire/api"
	"remontoire/frame"
	"remontoire/nmeaout"
	"remontoire/ring"
	"remontoire/sirf"
	"remontoire/ubx"
)

// P15.1: which talker it is is nothing; what is no talker tells nothing.
func TestTalkers(t *testing.T) {
	for first := range 256 {
		for second := range 256 {
			talker := string([]byte{byte(first), byte(second)})
			ok := first >= 'A' && first <= 'Z' && second >= 'A' && second <= 'Z'
			wantIf(t, sentence(talker+ordinaryRMC[2:]), toldRMC, ok)
			wantIf(t, sentence(talker+ordinaryZDA[2:]), toldZDA, ok)
		}
	}
	for _, talker := range []string{"", "G", "GPS", "P", "GGP", "$GP", " GP"} {
		wantNone(t, sentence(talker+ordinaryRMC[2:]))
		wantNone(t, sentence(talker+ordinaryZDA[2:]))
	}
}

// P15.1: all other sentences tell nothing, also those that have a time.
func TestOtherSentences(t *testing.T) {
	for _, body := range []string{
		"GPGGA,123519,4807.038,N,01131.000,E,1,08,0.9,545.4,M,46.9,M,1,0120",
		"GPGGA,123519,,,,,1,,,,,,,,",
		"GPGLL,4916.45,N,12311.12,W,225444,A",
		"GPGLL,,,,,225444.00,A,A",
		"GPGSA,A,3,04,05,06,09,12,14,17,20,24,25,29,31,2.5,1.3,2.1",
		"GPVTG,054.7,T,034.4,M,005.5,N,010.2,K",
		"GPGSV,2,1,08,01,40,083,46",
		"GPGSV,1,1,00",
		"GPTXT,01,01,02,123519",
		"PUBX,04,123519.00,230394,1,1,18,1,1,21",
		"PSRF151,3,1056,4,1",
		"GPZDAX,201530,04,07,2002,00,00",
		"GPzda,201530,04,07,2002,00,00",
		"GPRMC", "GPZDA", "RMC", "ZDA", "", ",", ",,,,,,,,,,,",
	} {
		wantNone(t, sentence(body))
		wantAsModel(t, sentence(body))
	}
	// The fields of each kind that tells time under each other name.
	for _, kind := range []string{"GGA", "GLL", "GSA", "VTG", "GSV", "GNS", "GBS", "AAA", "ZZZ"} {
		wantNone(t, sentence("GP"+kind+ordinaryRMC[5:]))
		wantNone(t, sentence("GP"+kind+ordinaryZDA[5:]))
	}
	wantNone(t, sentence("GPZDA"+ordinaryRMC[5:]))
	wantNone(t, sentence("GPRMC"+ordinaryZDA[5:]))
}

// P15.1: all other UBX messages tell nothing: each class and id with each payload that tells time under another one, or is long enough for any.
func TestOtherUBX(t *testing.T) {
	var payloads [][]byte
	for _, x := range ordinary {
		if s := named(x.shape); s.frame == api.FrameUBX {
			payloads = append(payloads, s.with(x.values).Body[2:])
		}
	}
	for _, n := range []int{0, 2, 3, 6, 24, 32, 512} {
		payloads = append(payloads, bytes.Repeat([]byte{7}, n))
	}
	told := 0
	for k := range 65536 {
		for _, payload := range payloads {
			f := api.Frame{Kind: api.FrameUBX, Body: append([]byte{byte(k >> 8), byte(k)}, payload...)}
			m, ok := model(f)
			if got, is := Of(f); got != m || is != ok {
				t.Fatalf("Of class %d, id %d, %d bytes: %+v, %t, want %+v, %t", byte(k>>8), byte(k), len(payload), got, is, m, ok)
			}
			if ok {
				told++
			}
		}
	}
	// Beside the four's own payloads: TIM-TP's values are all that is asked of it in the payload of NAV-TIMEGPS, which is as long.
	if told != 5 {
		t.Errorf("%d were told", told)
	}
}

// P15.1: UBX messages of layer 12 that tell no time, as it writes them.
func TestUBXWithoutTime(t *testing.T) {
	for _, u := range []api.Ubx{
		{Class: 1, ID: 38, V: []int64{6000, 0, 2, 18, 2, 0, 0, 2185, 7, 3}},
		{Class: 5, ID: 0, V: []int64{6, 1}},
		{Class: 5, ID: 1, V: []int64{1, 7}},
		{Class: 6, ID: 1, V: []int64{1, 7, 1}},
		{Class: 6, ID: 8, V: []int64{1000, 1, 1}},
		{Class: 6, ID: 49, V: []int64{0, 50, 1_000_000, 100_000, 247}},
	} {
		payload, e := ubx.Payload(u)
		if e != api.OK {
			t.Fatal(u, e)
		}
		wantNone(t, api.Frame{Kind: api.FrameUBX, Body: append([]byte{u.Class, u.ID}, payload...)})
	}
}

// P15.1: all other SiRF messages tell nothing: each first byte with all the rest of those that tell time.
func TestOtherSiRF(t *testing.T) {
	for _, x := range ordinary {
		s := named(x.shape)
		if s.frame != api.FrameSiRF {
			continue
		}
		for mid := range 256 {
			f := s.with(x.values)
			f.Body[0] = byte(mid)
			wantIf(t, f, x.told, byte(mid) == s.head[0])
		}
	}
	for mid := range 256 {
		for _, n := range []int{1, 2, 8, 19, 20, 41, 91, 188, 1023} {
			for _, x := range []byte{0, 3, 4, 255} {
				body := bytes.Repeat([]byte{x}, n)
				body[0] = byte(mid)
				wantAsModel(t, api.Frame{Kind: api.FrameSiRF, Body: body})
			}
		}
	}
	for _, body := range [][]byte{{11, 166}, {12, 166}, {166, 0, 52, 1, 0, 0, 0, 0}} {
		if _, e := sirf.Decode(body); e != api.OK {
			t.Fatal(body, e)
		}
		wantNone(t, api.Frame{Kind: api.FrameSiRF, Body: body})
	}
}

// P15.1: bodies of each length beside the one that a kind has, cut and with bytes behind.
func TestLengths(t *testing.T) {
	for _, x := range ordinary {
		s := named(x.shape)
		whole := s.with(x.values).Body
		for n := range 700 {
			body := make([]byte, n)
			copy(body, whole)
			wantIf(t, api.Frame{Kind: s.frame, Body: body}, x.told, n == len(whole))
			// What stands behind the body in the memory is none of its.
			if n < len(whole) {
				wantNone(t, api.Frame{Kind: s.frame, Body: whole[:n]})
				wantNone(t, api.Frame{Kind: s.frame, Body: whole[len(whole)-n:]})
			}
		}
		for _, n := range []int{len(whole) + 256, len(whole) + 65536, 1 << 20} {
			body := make([]byte, n)
			copy(body, whole)
			wantNone(t, api.Frame{Kind: s.frame, Body: body})
		}
	}
	for _, text := range []string{ordinaryRMC, ordinaryZDA} {
		for n := range text {
			wantAsModel(t, sentence(text[:n]))
			wantAsModel(t, sentence(text[n:]))
		}
		wantNone(t, sentence(text[:len("GPRMC,123519,A")]))
		wantNone(t, sentence(text+",,,"))
		wantNone(t, sentence(text+strings.Repeat(",", 1<<16)))
	}
}

// P15.1, P1: empty bodies and none at all, of all kinds.
func TestEmpty(t *testing.T) {
	wantNone(t, api.Frame{})
	for kind := range 256 {
		wantNone(t, api.Frame{Kind: uint8(kind)})
		wantNone(t, api.Frame{Kind: uint8(kind), Body: []byte{}})
		for x := range 256 {
			wantNone(t, api.Frame{Kind: uint8(kind), Body: []byte{byte(x)}})
		}
	}
}

// P15.1: a frame of another kind with the same body tells nothing, also one that is none of the three.
func TestOtherKinds(t *testing.T) {
	frames, messages := told()
	for i, f := range frames {
		for kind := range 256 {
			wantIf(t, api.Frame{Kind: uint8(kind), Body: f.Body}, messages[i], uint8(kind) == f.Kind)
		}
	}
}

// P15.1: a body that is a piece of other memory: that stays, too, and a later change of it changes no message.
func TestPiecesOfMemory(t *testing.T) {
	frames, messages := told()
	for i, f := range frames {
		memory := bytes.Repeat([]byte{','}, len(f.Body)+100)
		copy(memory[50:], f.Body)
		kept := bytes.Clone(memory)
		piece := api.Frame{Kind: f.Kind, Body: memory[50 : 50+len(f.Body)]}
		want(t, piece, messages[i], true)
		if !bytes.Equal(memory, kept) {
			t.Errorf("frame %d: the memory about it is another one", i)
		}
		got, _ := Of(piece)
		clear(memory)
		if got != messages[i] {
			t.Errorf("frame %d: the message is %+v then", i, got)
		}
		wantNone(t, piece)
	}
}

// P15.1: frames that layers 11, 12 and 13 write and layer 8 takes out of a stream; of the values each stands at its place of those layers' lists.
func TestOutOfARing(t *testing.T) {
	clock, _ := nmeaout.Clock(3_692_217_600, true)
	silent, _ := nmeaout.Clock(3_692_217_600, false)
	rmcFrame, _ := nmeaout.Sentence(ordinaryRMC)
	stream := [][]byte{clock, []byte("noise"), silent, rmcFrame}
	for _, u := range []api.Ubx{
		{Class: 1, ID: 7, V: []int64{11, 2020, 2, 29, 23, 58, 57, 0xF7, 12, 0, 5, 0xF1}},
		{Class: 1, ID: 38, V: []int64{6000, 0, 2, 18, 2, 0, 0, 2185, 7, 3}},
		{Class: 1, ID: 32, V: []int64{604_799_000, 0, 2100, 18, 0xFF, 13}},
		{Class: 1, ID: 33, V: []int64{14, 15, 0, 2199, 12, 31, 23, 59, 60, 0xF4}},
		{Class: 13, ID: 1, V: []int64{1000, 0, -7, 2101, 0xFE, 16}},
	} {
		b, e := ubx.Encode(u)
		if e != api.OK {
			t.Fatal(u, e)
		}
		stream = append(stream, b)
	}
	for _, s := range []api.Sirf{
		{MID: 2, V: []int64{-1, 2, 3, 4, 5, 6, 0xF6, 8, 9, 0x0401, 200, 12}},
		{MID: 4, V: []int64{-1023, 300, 12}},
		{MID: 7, V: []int64{2102, 400, 11, 5, 6, 7}},
		{MID: 41, V: []int64{0, 7, 8, 9, 2030, 10, 11, 12, 13, 14_000}},
		{MID: 52, V: []int64{13, 14, 15, 16, 11, 2031, -7, 8, 0xFF}},
		{MID: 11, V: []int64{166}},
	} {
		b, e := sirf.Encode(s)
		if e != api.OK {
			t.Fatal(s, e)
		}
		stream = append(stream, b)
	}
	r, _ := ring.New(api.MaxRing)
	for _, b := range stream {
		r.Put(b)
	}
	frames, _ := frame.All(r)
	if len(frames) != len(stream)-1 {
		t.Fatalf("%d frames, want %d", len(frames), len(stream)-1)
	}
	var got []api.Msg
	for _, f := range frames {
		wantAsModel(t, f)
		if m, ok := Of(f); ok {
			got = append(got, m)
		}
	}
	wanted := []api.Msg{
		{Kind: 2, UTC: true, Sec: 3_692_217_600},
		toldRMC,
		{Kind: 3, UTC: true, Sec: 3_792_009_537},
		{Kind: 4, Sec: 2100*604_800 + 604_799},
		{Kind: 5, UTC: true, Sec: 9_467_107_199, Leap: true},
		{Kind: 6, Sec: 2101*604_800 + 1, Next: true},
		{Kind: 7, Sec: 604_802, Cycle: 1024},
		{Kind: 8, Sec: 604_803, Cycle: 1024},
		{Kind: 9, Sec: 2102*604_800 + 4},
		{Kind: 10, UTC: true, Sec: 4_126_939_994},
		{Kind: 11, UTC: true, Sec: 4_161_590_055},
	}
	if len(got) != len(wanted) {
		t.Fatalf("%d messages, want %d: %+v", len(got), len(wanted), got)
	}
	for i, m := range wanted {
		if got[i] != m {
			t.Errorf("message %d: %+v, want %+v", i, got[i], m)
		}
	}
}

// P15.1: each second that layer 11 writes is told again.
func TestClocksTold(t *testing.T) {
	r := rand.New(rand.NewSource(152))
	list := []int64{2_524_521_600, api.Epoch - 1, api.Epoch, 9_467_107_199}
	for range 3000 {
		list = append(list, 2_524_521_600+r.Int63n(9_467_107_200-2_524_521_600))
	}
	for _, sec := range list {
		b, e := nmeaout.Clock(sec, true)
		if e != api.OK {
			t.Fatal(sec, e)
		}
		want(t, sentence(string(b[1:len(b)-5])), api.Msg{Kind: api.MsgZDA, UTC: true, Sec: sec}, true)
	}
}

// P15.1, P1: drawn frames of any kind: of drawn bytes, and ordinary ones of which a few bytes were drawn.
func TestDrawn(t *testing.T) {
	r := rand.New(rand.NewSource(153))
	frames, _ := told()
	count := map[uint8]int{}
	for range 60_000 {
		f := frames[r.Intn(len(frames))]
		f.Body = bytes.Clone(f.Body)
		for range r.Intn(4) {
			if f.Kind == api.FrameNMEA {
				f.Body[r.Intn(len(f.Body))] = "0123456789,.AVNSEW"[r.Intn(18)]
				continue
			}
			at := r.Intn(len(f.Body))
			switch r.Intn(3) {
			case 0:
				f.Body[at] = byte(r.Intn(256))
			case 1:
				f.Body[at] ^= 1 << r.Intn(8)
			default:
				f.Body[at] += byte(1 + 254*r.Intn(2))
			}
		}
		wantAsModel(t, f)
		if m, ok := Of(f); ok {
			count[m.Kind]++
		}
	}
	for kind := uint8(1); kind <= 11; kind++ {
		if count[kind] < 500 {
			t.Errorf("only %d of kind %d were told", count[kind], kind)
		}
	}
	for range 20_000 {
		body := make([]byte, r.Intn(200))
		r.Read(body)
		wantAsModel(t, api.Frame{Kind: uint8(r.Intn(5)), Body: body})
	}
}

// P15.1, P1: drawn values in all fields of each shape, near those that are asked.
func TestDrawnValues(t *testing.T) {
	r := rand.New(rand.NewSource(154))
	for _, x := range ordinary {
		s := named(x.shape)
		ok := 0
		for range 5000 {
			f := s.with(x.values)
			for _, e := range s.entries {
				for i := range e.length {
					if r.Intn(3) == 0 {
						f.Body[s.digit(e, i)] = byte(r.Intn(8))
					}
				}
			}
			// Whole seconds, as few of all are.
			if !x.told.UTC && r.Intn(2) == 0 {
				s.put(f.Body, "TOW", 1000*r.Int63n(4_294_967))
			}
			wantAsModel(t, f)
			if _, told := Of(f); told {
				ok++
			}
		}
		if ok == 0 {
			t.Errorf("%s: none was told", s.name)
		}
	}
}
