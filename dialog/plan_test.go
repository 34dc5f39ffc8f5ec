package dialog

import (
	"bytes"
	"encoding/hex"
	"slices"
	"strings"
	"testing"

	"remontoire/api"
	"remontoire/frame"
	"remontoire/nmeaout"
	"remontoire/ring"
	"remontoire/sirf"
	"remontoire/ubx"
)

// bytesOf are bytes that are written out in hexadecimal digits.
func bytesOf(text string) []byte {
	b, err := hex.DecodeString(strings.ReplaceAll(text, " ", ""))
	if err != nil {
		panic(err)
	}
	return b
}

// plans are the three plans, byte by byte.
func plans() map[uint8][]api.Command {
	return map[uint8][]api.Command{
		api.FrameNMEA: {
			{B: []byte("$PUBX,40,ZDA,0,1,0,0,0,0*45\r\n")},
			{B: []byte("$PUBX,40,RMC,0,1,0,0,0,0*46\r\n")},
			{B: []byte("$PSRF103,08,0,01,1*2D\r\n")},
		},
		api.FrameUBX: {
			{B: bytesOf("B5 62 06 08 06 00 E8 03 01 00 01 00 01 39"), Wait: 1, Class: 6, ID: 8},
			{B: bytesOf("B5 62 06 01 03 00 01 07 01 13 51"), Wait: 1, Class: 6, ID: 1},
			{B: bytesOf("B5 62 06 01 03 00 0D 01 01 19 69"), Wait: 1, Class: 6, ID: 1},
		},
		api.FrameSiRF: {
			{B: bytesOf("A0 A2 00 08 A6 00 34 01 00 00 00 00 00 DB B0 B3"), Wait: 2, ID: 166},
		},
	}
}

// P14.3: each kind's plan, byte by byte; other kinds have none.
func TestPlan(t *testing.T) {
	for kind := range 256 {
		want := plans()[uint8(kind)]
		got := Plan(uint8(kind))
		if !slices.EqualFunc(got, want, sameCommand) {
			t.Errorf("Plan of %d: %v, want %v", kind, got, want)
		}
	}
	if len(plans()) != 3 || len(Plan(1)) != 3 || len(Plan(2)) != 3 || len(Plan(3)) != 1 {
		t.Error("the kinds 1, 2, 3 have 3, 3, 1 commands")
	}
}

// P14.3: the plans are of what layers 11 to 13 write.
func TestPlanIsWritten(t *testing.T) {
	var l [][]byte
	write := func(b []byte, e api.Errno) {
		if e != api.OK {
			t.Fatal(e)
		}
		l = append(l, b)
	}
	write(nmeaout.Rate(api.ZDA, 1))
	write(nmeaout.Rate(api.RMC, 1))
	write(nmeaout.Ask(api.ZDA, 1))
	write(ubx.Encode(api.Ubx{Class: 6, ID: 8, V: []int64{1000, 1, 1}}))
	write(ubx.Encode(api.Ubx{Class: 6, ID: 1, V: []int64{1, 7, 1}}))
	write(ubx.Encode(api.Ubx{Class: 6, ID: 1, V: []int64{13, 1, 1}}))
	write(sirf.Encode(api.Sirf{MID: 166, V: []int64{0, 52, 1}}))
	for i, c := range slices.Concat(Plan(1), Plan(2), Plan(3)) {
		if !bytes.Equal(c.B, l[i]) {
			t.Errorf("the command %d: % X, want % X", i, c.B, l[i])
		}
	}
}

// P14.3: a plan's commands are frames of its kind, which layer 8 takes out of a stream.
func TestPlanIsFrames(t *testing.T) {
	for kind, want := range plans() {
		r, _ := ring.New(api.MaxRing)
		for _, c := range Plan(kind) {
			r.Put(c.B)
		}
		frames, dropped := frame.All(r)
		if len(frames) != len(want) || dropped != 0 || r.Len() != 0 {
			t.Fatalf("Plan of %d: %d frames, %d dropped, %d left", kind, len(frames), dropped, r.Len())
		}
		for i, f := range frames {
			if b, e := frame.Bytes(f); f.Kind != kind || e != api.OK || !bytes.Equal(b, want[i].B) {
				t.Errorf("Plan of %d: % X of kind %d", kind, b, f.Kind)
			}
		}
	}
}

// P14.3: a plan is a list that a dialogue may have, and its commands are done, when the receiver says so; or fail.
func TestPlanIsDone(t *testing.T) {
	for kind, want := range plans() {
		d, m := made(t, second, 1, Plan(kind)...)
		refused, late := d.Copy(), d.Copy()
		for i, c := range want {
			wantSent(t, d.Copy(), 0, c.B...)
			wantTick(t, d, m, 0)
			wantFrame(t, d, m, yesOf(c))
			wantCounts(t, d, i+1, 0, len(want)-i-1, false)
			wantSent(t, refused, 0, c.B...)
			wantHeard(t, refused, c.Wait != 0, noOf(c).Kind, noOf(c).Body...)
			wantSent(t, late, int64(i)*second, c.B...)
		}
		wantTick(t, d, m, most)
		wantSent(t, late, most)
		if kind == api.FrameNMEA {
			wantCounts(t, refused, 3, 0, 0, false)
			wantCounts(t, late, 3, 0, 0, false)
		} else {
			wantCounts(t, refused, 0, len(want), 0, false)
			wantCounts(t, late, 0, len(want), 0, false)
		}
	}
}

// P14.3: a plan may be written over: neither the others of it nor another plan are other ones by that.
func TestPlanOwnMemory(t *testing.T) {
	for kind, want := range plans() {
		plan, other := Plan(kind), Plan(kind)
		for i := range plan {
			clear(plan[i].B[:cap(plan[i].B)])
			plan[i].Class, plan[i].ID, plan[i].Wait = 99, 99, 99
			if i+1 < len(plan) && !slices.EqualFunc(plan[i+1:], want[i+1:], sameCommand) {
				t.Errorf("Plan of %d: writing over the command %d writes over others", kind, i)
			}
		}
		if !slices.EqualFunc(other, want, sameCommand) || !slices.EqualFunc(Plan(kind), want, sameCommand) {
			t.Errorf("Plan of %d: writing over one plan writes over another one", kind)
		}
	}
}
