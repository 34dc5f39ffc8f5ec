package sirf

import (
	"bytes"
	"encoding/hex"
	"math"
	"math/rand"
	"slices"
	"strings"
	"testing"

	"remontoire/api"
)

// P13.2: drawn messages of each kind, and those that are all noughts, or all at the least or the greatest values.
func TestWriteEachKind(t *testing.T) {
	random := rand.New(rand.NewSource(135))
	for _, r := range rows {
		none, least, most := middle(r), middle(r), middle(r)
		for i, f := range r.entries {
			none.V[i], least.V[i], most.V[i] = 0, f.least(), f.most()
		}
		for _, s := range []api.Sirf{none, least, most, middle(r)} {
			wantFits(t, s, api.OK)
			wantWritten(t, s)
		}
		for range 300 {
			wantWritten(t, drawnMessage(random, r))
		}
	}
}

// P13.2: each field at its least and its greatest value, one beyond each, and far ones; all others are as they may be.
func TestWriteEachEdge(t *testing.T) {
	for _, r := range rows {
		for i, f := range r.entries {
			for _, base := range []int64{math.MinInt64, f.least(), -1, 0, f.most(), math.MaxInt64} {
				for d := int64(-2); d <= 2; d++ {
					// Far ones wrap round to the other end here.
					wantWritten(t, withValue(middle(r), i, base+d))
				}
			}
			wantFits(t, withValue(middle(r), i, f.least()), api.OK)
			wantFits(t, withValue(middle(r), i, f.most()), api.OK)
			wantFits(t, withValue(middle(r), i, f.least()-1), api.ErrArg)
			wantFits(t, withValue(middle(r), i, f.most()+1), api.ErrArg)
		}
	}
}

// P13.2: values whose lowest bytes are those of one that fits are refused, too: all powers of two, and beside them.
func TestWriteEachBit(t *testing.T) {
	for _, r := range rows {
		for i := range r.entries {
			for bit := range 64 {
				x := int64(1) << bit
				for _, value := range []int64{x, -x, x + 5, x - 1, -x + 5, -x - 1} {
					wantWritten(t, withValue(middle(r), i, value))
				}
			}
		}
	}
}

// P13.2: each value of fields of one and of two bytes, weeks among them, and what stands beyond them.
func TestWriteEachValue(t *testing.T) {
	for _, x := range []struct {
		mid      byte
		at       int
		from, to int64
	}{
		{11, 0, 0, 255}, {12, 0, 0, 255}, {166, 2, 0, 255}, {4, 2, 0, 255},
		{2, 3, -32768, 32767}, {52, 6, -32768, 32767}, {41, 9, 0, 65535},
		{2, 9, 0, 65535}, {4, 0, -32768, 32767}, {7, 0, 0, 65535}, {41, 2, 0, 65535}, // weeks
	} {
		base := middle(*rowOf(x.mid))
		for value := x.from - 300; value <= x.to+300; value++ {
			s := withValue(base, x.at, value)
			want := api.ErrArg
			if value >= x.from && value <= x.to {
				want = api.OK
			}
			b, e := Payload(s)
			if e != want || (e != api.OK && len(b) > 0) {
				t.Fatalf("Payload of %v: %x, %d, want %d", s, b, e, want)
			}
			if e != api.OK {
				continue
			}
			if back, e := Decode(b); e != api.OK || !sameMessage(back, s) {
				t.Fatalf("%v is read as %v, %d", s, back, e)
			}
		}
	}
}

// P13.2: one value fewer and one more than the kind has fields, none at all, and far more.
func TestWriteOtherCounts(t *testing.T) {
	for _, r := range rows {
		for n := range 40 {
			wantWritten(t, api.Sirf{MID: r.mid, V: make([]int64, n)})
		}
		whole := middle(r)
		for _, v := range [][]int64{nil, {}, whole.V[1:], whole.V[:len(whole.V)-1], append(slices.Clone(whole.V), 0), slices.Repeat(whole.V, 2), make([]int64, 256+len(whole.V)), make([]int64, 65536+len(whole.V))} {
			s := api.Sirf{MID: r.mid, V: v}
			wantFits(t, s, api.ErrArg)
			wantWritten(t, s)
		}
	}
}

// P13.2: a value that does not fit is refused, wherever it stands, and however many there are.
func TestWriteSeveralThatDoNotFit(t *testing.T) {
	random := rand.New(rand.NewSource(136))
	for _, r := range rows {
		for range 200 {
			s := drawnMessage(random, r)
			wrong := 1 + random.Intn(len(s.V))
			for range wrong {
				i := random.Intn(len(s.V))
				f := r.entries[i]
				s.V[i] = []int64{f.least() - 1 - random.Int63n(1<<40), f.most() + 1 + random.Int63n(1<<40)}[random.Intn(2)]
			}
			wantFits(t, s, api.ErrArg)
		}
	}
}

// P13.2: a list's length is that of the slice, not that of the memory behind it.
func TestWriteOfASlice(t *testing.T) {
	for _, r := range rows {
		memory := slices.Repeat([]int64{7}, 40)
		n := len(r.entries)
		for _, v := range [][]int64{memory[5 : 5+n], memory[5 : 4+n], memory[5 : 6+n]} {
			wantWritten(t, api.Sirf{MID: r.mid, V: v})
		}
		if !slices.Equal(memory, slices.Repeat([]int64{7}, 40)) {
			t.Errorf("%s: the memory about the values is another one", r.name)
		}
	}
}

// P13.2: all first bytes: ErrNone ahead of ErrArg of what is none of the kinds, whatever the values.
func TestWriteEachMID(t *testing.T) {
	lists := [][]int64{nil, {}, {-1}, {256}, {math.MinInt64, math.MaxInt64}, make([]int64, 1<<16)}
	for n := range 20 {
		lists = append(lists, make([]int64, n), slices.Repeat([]int64{math.MaxInt64}, n))
	}
	known := 0
	for mid := range 256 {
		r := rowOf(byte(mid))
		for _, v := range lists {
			s := api.Sirf{MID: byte(mid), V: v}
			want := api.ErrNone
			if r != nil {
				_, want = payloadOf(s)
			}
			if want == api.OK {
				known++
			}
			wantFits(t, s, want)
		}
	}
	if known != len(rows) {
		t.Errorf("%d kinds, want %d", known, len(rows))
	}
	wantFits(t, api.Sirf{}, api.ErrNone)
}

// P13.2: bytes where no field stands are noughts, the first one is the MID; a value changes the bytes of its own field alone.
func TestWriteBytesOfNoField(t *testing.T) {
	random := rand.New(rand.NewSource(137))
	for _, r := range rows {
		for range 100 {
			s := drawnMessage(random, r)
			b, e := Payload(s)
			if e != api.OK || len(b) != r.length || b[0] != r.mid {
				t.Fatalf("%s: %x, %d", r.name, b, e)
			}
			for at, isField := range r.places() {
				if at > 0 && !isField && b[at] != 0 {
					t.Fatalf("%s: the byte %d is %d", r.name, at, b[at])
				}
			}
			i := random.Intn(len(r.entries))
			f := r.entries[i]
			other, _ := Payload(withValue(s, i, f.drawnValue(random)))
			copy(other[f.place:f.place+f.length], b[f.place:])
			if !bytes.Equal(other, b) {
				t.Fatalf("%s: %s changes bytes of others: %x, %x", r.name, f.name, b, other)
			}
		}
	}
}

// P13.2: what is told is in memory of its own: the payload, the frame, the values and what was handed in share none.
func TestWriteOwnMemory(t *testing.T) {
	for _, r := range rows {
		s := middle(r)
		payload, _ := Payload(s)
		all, _ := Encode(s)
		wantPayload, wantAll := slices.Clone(payload), slices.Clone(all)
		for i := range s.V {
			s.V[i] = 1
		}
		if !bytes.Equal(payload, wantPayload) || !bytes.Equal(all, wantAll) {
			t.Errorf("%s: what was told goes by the values", r.name)
		}
		clear(payload)
		if !bytes.Equal(all, wantAll) {
			t.Errorf("%s: the frame goes by the payload", r.name)
		}
	}
}

// P13.2: the chapter's examples, and frames written out by hand.
func TestEncodeKnown(t *testing.T) {
	for _, x := range []struct {
		s    api.Sirf
		want string
	}{
		{api.Sirf{MID: 11, V: []int64{166}}, "A0 A2 00 02 0B A6 00 B1 B0 B3"},
		{api.Sirf{MID: 166, V: []int64{0, 52, 1}}, "A0 A2 00 08 A6 00 34 01 00 00 00 00 00 DB B0 B3"},
		{api.Sirf{MID: 12, V: []int64{166}}, "A0 A2 00 02 0C A6 00 B2 B0 B3"},
		{api.Sirf{MID: 52, V: []int64{23, 59, 60, 31, 12, 2016, -18, 1, 7}}, "A0 A2 00 13 34 17 3B 3C 1F 0C 07 E0 FF EE 00 00 00 01 07 00 00 00 00 03 C9 B0 B3"},
		{api.Sirf{MID: 7, V: []int64{1930, 1700, 9, 4000000000, 1000, 604799999}}, "A0 A2 00 14 07 07 8A 00 00 06 A4 09 EE 6B 28 00 00 00 03 E8 24 0C 83 FF 05 69 B0 B3"},
		{api.Sirf{MID: 4, V: []int64{-2, 60479900, 12}}, "A0 A2 00 BC 04 FF FE 03 9A D9 9C 0C" + strings.Repeat(" 00", 180) + " 04 1F B0 B3"},
		{api.Sirf{MID: 2, V: []int64{-2686727, -4304282, 3851642, 0, -1, 256, 4, 10, 0, 1906, 40947900, 6}}, "A0 A2 00 29 02 FF D7 00 F9 FF BE 52 66 00 3A C5 7A 00 00 FF FF 01 00 04 0A 00 07 72 02 70 D0 BC 06" + strings.Repeat(" 00", 12) + " 0B 49 B0 B3"},
		{api.Sirf{MID: 41, V: []int64{0, 0x4004, 1930, 17000, 2017, 1, 1, 0, 0, 60999}}, "A0 A2 00 5B 29 00 00 40 04 07 8A 00 00 42 68 07 E1 01 01 00 00 EE 47" + strings.Repeat(" 00", 72) + " 03 C7 B0 B3"},
	} {
		want, err := hex.DecodeString(strings.ReplaceAll(x.want, " ", ""))
		if err != nil {
			t.Fatal(err)
		}
		got, e := Encode(x.s)
		if e != api.OK || !bytes.Equal(got, want) {
			t.Errorf("%v: % X, %d, want % X", x.s, got, e, want)
		}
		if payload, e := Payload(x.s); e != api.OK || !bytes.Equal(payload, want[4:len(want)-4]) {
			t.Errorf("%v: % X, %d, want % X", x.s, payload, e, want[4:len(want)-4])
		}
	}
}
