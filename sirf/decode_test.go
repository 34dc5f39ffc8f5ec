package sirf

import (
	"bytes"
	"fmt"
	"math/rand"
	"slices"
	"testing"

	"remontoire/api"
)

// P13.1: payloads of all bytes the same behind the first one, of counted and of drawn bytes.
func TestDecodeEachKind(t *testing.T) {
	random := rand.New(rand.NewSource(131))
	for _, r := range rows {
		for x := range 256 {
			wantDecode(t, r.payloadWith(byte(x)))
		}
		counted := r.payloadWith(0)
		for i := 1; i < len(counted); i++ {
			counted[i] = byte(i)
		}
		wantDecode(t, counted)
		for range 300 {
			wantDecode(t, r.drawnPayload(random))
		}
	}
}

// P13.1: each byte alone goes to the field in which it stands, and to no other one.
func TestDecodeEachPlace(t *testing.T) {
	for _, r := range rows {
		for at := 1; at < r.length; at++ {
			for _, base := range []byte{0, 255} {
				for _, x := range []byte{0, 1, 127, 128, 254, 255} {
					payload := r.payloadWith(base)
					payload[at] = x
					wantDecode(t, payload)
				}
			}
		}
	}
}

// P13.1: each field at its least and its greatest value, and beside them, with any bytes about it.
func TestDecodeEachEdge(t *testing.T) {
	random := rand.New(rand.NewSource(132))
	for _, r := range rows {
		for i, f := range r.entries {
			for _, value := range []int64{f.least(), f.least() + 1, -1, 0, 1, f.most() / 2, f.most()/2 + 1, f.most() - 1, f.most()} {
				if value < f.least() {
					continue
				}
				payload := r.drawnPayload(random)
				f.lay(payload, value)
				wantDecode(t, payload)
				if s, e := Decode(payload); e != api.OK || s.V[i] != value {
					t.Fatalf("%s, %s: %v, %d, want %d there", r.name, f.name, s, e, value)
				}
			}
		}
	}
}

// P13.1: a week is told whole, not its ten lowest bits alone; of the kind 4 it is signed.
func TestDecodeEachWeek(t *testing.T) {
	for _, x := range []struct {
		mid    byte
		at     int
		place  int
		signed bool
	}{{2, 9, 22, false}, {4, 0, 1, true}, {7, 0, 1, false}, {41, 2, 5, false}} {
		payload := rowOf(x.mid).payloadWith(0)
		for week := range int64(65536) {
			payload[x.place], payload[x.place+1] = byte(week/256), byte(week%256)
			want := week
			if x.signed && week >= 32768 {
				want -= 65536
			}
			if s, e := Decode(payload); e != api.OK || s.V[x.at] != want {
				t.Fatalf("%d: the week %d is told by %v, %d", x.mid, want, s, e)
			}
		}
	}
}

// P13.1: all bytes may stand where no field stands.
func TestDecodeBytesOfNoField(t *testing.T) {
	random := rand.New(rand.NewSource(133))
	for _, r := range rows {
		for range 100 {
			payload := r.drawnPayload(random)
			want, _ := Decode(payload)
			for at, isField := range r.places() {
				if at > 0 && !isField {
					payload[at] = byte(random.Intn(256))
				}
			}
			if got, e := Decode(payload); e != api.OK || !sameMessage(got, want) {
				t.Fatalf("%s: %v, %d, want %v", r.name, got, e, want)
			}
		}
	}
}

// P13.1: each length beside the one that the kind has, none and far ones among them.
func TestDecodeOtherLengths(t *testing.T) {
	for _, r := range rows {
		lengths := []int{1023, 1024, 65535, 65536, 65536 + r.length, 1<<20 + r.length}
		for n := 1; n <= 600; n++ {
			lengths = append(lengths, n)
		}
		for _, n := range lengths {
			payload := make([]byte, n)
			payload[0] = r.mid
			want := api.ErrForm
			if n == r.length {
				want = api.OK
			}
			if s, e := Decode(payload); e != want || (e != api.OK && !noMessage(s)) {
				t.Fatalf("%s of %d bytes: %v, %d, want %d", r.name, n, s, e, want)
			}
		}
	}
}

// P13.1: an empty payload and one that is not there are ErrShort, whatever stands in the memory behind it.
func TestDecodeOfNone(t *testing.T) {
	whole := rowOf(11).payloadWith(5)
	for _, payload := range [][]byte{nil, {}, whole[:0], whole[2:]} {
		if s, e := Decode(payload); e != api.ErrShort || !noMessage(s) {
			t.Errorf("%v, %d", s, e)
		}
	}
}

// P13.1: a payload's length is that of the slice, not that of the memory behind it.
func TestDecodeOfASlice(t *testing.T) {
	for _, r := range rows {
		memory := bytes.Repeat([]byte{r.mid}, 300)
		wantDecode(t, memory[50:50+r.length])
		wantDecode(t, memory[50:50+r.length-1])
		wantDecode(t, memory[50:51+r.length])
		if !bytes.Equal(memory, bytes.Repeat([]byte{r.mid}, 300)) {
			t.Errorf("%s: the memory about the payload is another one", r.name)
		}
	}
}

// P13.1: all first bytes: ErrNone ahead of ErrForm of what is none of the kinds, whatever stands behind them.
func TestDecodeEachFirstByte(t *testing.T) {
	random := rand.New(rand.NewSource(134))
	known := 0
	for mid := range 256 {
		r := rowOf(byte(mid))
		for n := 1; n <= 300; n++ {
			payload := make([]byte, n)
			if n%3 > 0 {
				random.Read(payload)
			}
			payload[0] = byte(mid)
			want := api.ErrNone
			switch {
			case r != nil && n == r.length:
				want = api.OK
				known++
			case r != nil:
				want = api.ErrForm
			}
			if s, e := Decode(payload); e != want || (e != api.OK && !noMessage(s)) {
				t.Fatalf("Decode of %x: %v, %d, want %d", payload, s, e, want)
			}
		}
	}
	if known != len(rows) {
		t.Errorf("%d kinds, want %d", known, len(rows))
	}
	for _, mid := range []byte{0, 1, 3, 42, 167, 255} {
		payload := make([]byte, 1<<20)
		payload[0] = mid
		if s, e := Decode(payload); e != api.ErrNone || !noMessage(s) {
			t.Errorf("%d of 2^20 bytes: %v, %d", mid, s, e)
		}
	}
}

// P13.1: a message is in memory of its own: it stays, whatever becomes of the payload, and of another one of it.
func TestDecodeOwnMemory(t *testing.T) {
	for _, r := range rows {
		payload := r.payloadWith(7)
		first, _ := Decode(payload)
		second, _ := Decode(payload)
		want := slices.Clone(first.V)
		clear(payload)
		clear(second.V)
		if !slices.Equal(first.V, want) || first.MID != r.mid {
			t.Errorf("%s: %v", r.name, first)
		}
	}
}

// P13.1: payloads written out by hand.
func TestDecodeByHand(t *testing.T) {
	noughts := func(n int) []byte { return make([]byte, n) }
	any255 := func(n int) []byte { return bytes.Repeat([]byte{255}, n) }
	for _, x := range []struct {
		payload []byte
		want    string
	}{
		{[]byte{11, 166}, "{11 [166]}"},
		{[]byte{12, 0}, "{12 [0]}"},
		{[]byte{166, 0, 52, 1, 9, 9, 9, 9}, "{166 [0 52 1]}"},
		{slices.Concat([]byte{4, 0xFF, 0xFE, 3, 0x9A, 0xD9, 0x9C, 12}, any255(180)), "{4 [-2 60479900 12]}"},
		{[]byte{7, 0x07, 0x8A, 0, 0, 6, 0xA4, 9, 0xEE, 0x6B, 0x28, 0, 0, 0, 3, 0xE8, 0x24, 0x0C, 0x83, 0xFF}, "{7 [1930 1700 9 4000000000 1000 604799999]}"},
		{[]byte{52, 23, 59, 60, 31, 12, 7, 0xE0, 0xFF, 0xEE, 0, 0, 0, 1, 7, 1, 2, 3, 4}, "{52 [23 59 60 31 12 2016 -18 1 7]}"},
		{slices.Concat([]byte{2, 0xFF, 0xD7, 0, 0xF9, 0xFF, 0xBE, 0x52, 0x66, 0, 0x3A, 0xC5, 0x7A, 0, 0, 0xFF, 0xFF, 1, 0, 4, 10, 0, 7, 0x72, 2, 0x70, 0xD0, 0xBC, 6}, noughts(12)), "{2 [-2686727 -4304282 3851642 0 -1 256 4 10 0 1906 40947900 6]}"},
		{slices.Concat([]byte{41, 0, 0, 0x40, 4, 7, 0x8A, 0, 0, 0x42, 0x68, 7, 0xE1, 1, 1, 0, 0, 0xEE, 0x47}, any255(72)), "{41 [0 16388 1930 17000 2017 1 1 0 0 60999]}"},
	} {
		s, e := Decode(x.payload)
		if got := fmt.Sprint(s); got != x.want || e != api.OK {
			t.Errorf("%x: %s, %d, want %s", x.payload, got, e, x.want)
		}
	}
}
