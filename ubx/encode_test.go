package ubx

import (
	"bytes"
	"encoding/hex"
	"math"
	"math/rand"
	"slices"
	"strings"
	"testing"

	"remontoire/api"
)

// P12.2: drawn messages of each kind, and those that are all noughts, or all at the least or the greatest values.
func TestWriteEachKind(t *testing.T) {
	random := rand.New(rand.NewSource(124))
	for _, r := range rows {
		none, least, most := middle(r), middle(r), middle(r)
		for i, f := range r.entries {
			none.V[i], least.V[i], most.V[i] = 0, f.least(), f.most()
		}
		wantWritten(t, none)
		wantWritten(t, least)
		wantWritten(t, most)
		wantWritten(t, middle(r))
		for range 500 {
			wantWritten(t, drawnMessage(random, r))
		}
	}
}

// P12.2: each field at its least and its greatest value, one beyond each, and far ones; all others are as they may be.
func TestWriteEachEdge(t *testing.T) {
	for _, r := range rows {
		for i, f := range r.entries {
			for _, base := range []int64{math.MinInt64, f.least(), -1, 0, f.most(), math.MaxInt64} {
				for d := int64(-2); d <= 2; d++ {
					// Far ones wrap round to the other end here.
					wantWritten(t, withValue(middle(r), i, base+d))
				}
			}
			wantFits(t, withValue(middle(r), i, f.least()), api.OK)
			wantFits(t, withValue(middle(r), i, f.most()), api.OK)
			wantFits(t, withValue(middle(r), i, f.least()-1), api.ErrArg)
			wantFits(t, withValue(middle(r), i, f.most()+1), api.ErrArg)
		}
	}
}

func wantFits(t *testing.T, u api.Ubx, want api.Errno) {
	t.Helper()
	if b, e := Payload(u); e != want || (len(b) == 0) != (want != api.OK) {
		t.Fatalf("Payload of %v: %x, %d, want %d", u, b, e, want)
	}
	if b, e := Encode(u); e != want || (len(b) == 0) != (want != api.OK) {
		t.Fatalf("Encode of %v: %x, %d, want %d", u, b, e, want)
	}
}

// P12.2: values whose lowest bytes are those of one that fits are refused, too: all powers of two, and beside them.
func TestWriteEachBit(t *testing.T) {
	for _, r := range rows {
		for i := range r.entries {
			for bit := range 64 {
				x := int64(1) << bit
				for _, value := range []int64{x, -x, x + 5, x - 1, -x + 5, -x - 1, ^x} {
					wantWritten(t, withValue(middle(r), i, value))
				}
			}
		}
	}
}

// P12.2: each value of the fields of one and of two bytes, and what stands beyond them.
func TestWriteEachValue(t *testing.T) {
	for _, x := range []struct {
		class, id byte
		at        int
		from, to  int64
	}{{5, 0, 0, 0, 255}, {5, 1, 1, 0, 255}, {6, 1, 2, 0, 255}, {6, 8, 0, 0, 65535}, {6, 49, 1, -32768, 32767}, {1, 32, 3, -128, 127}, {1, 38, 5, -128, 127}, {1, 33, 3, 0, 65535}} {
		r := *rowOf(x.class, x.id)
		for value := x.from - 300; value <= x.to+300; value++ {
			u := withValue(middle(r), x.at, value)
			want := api.ErrArg
			if value >= x.from && value <= x.to {
				want = api.OK
			}
			b, e := Payload(u)
			if e != want {
				t.Fatalf("Payload of %v: %d, want %d", u, e, want)
			}
			if e != api.OK {
				continue
			}
			if back, e := Decode(x.class, x.id, b); e != api.OK || !sameMessage(back, u) {
				t.Fatalf("%v is read as %v, %d", u, back, e)
			}
		}
	}
}

// P12.2: one value fewer and one more than the kind has fields, none at all, and far more.
func TestWriteOtherCounts(t *testing.T) {
	for _, r := range rows {
		for n := range 40 {
			wantWritten(t, api.Ubx{Class: r.class, ID: r.id, V: make([]int64, n)})
		}
		whole := middle(r)
		for _, v := range [][]int64{nil, {}, whole.V[1:], whole.V[:len(whole.V)-1], append(slices.Clone(whole.V), 0), append(slices.Clone(whole.V), whole.V...), make([]int64, 1<<16), make([]int64, 65536+len(whole.V))} {
			u := api.Ubx{Class: r.class, ID: r.id, V: v}
			wantFits(t, u, api.ErrArg)
			wantWritten(t, u)
		}
	}
}

// P12.2: a list's length is that of the slice, not that of the memory behind it.
func TestWriteOfASlice(t *testing.T) {
	for _, r := range rows {
		memory := slices.Repeat([]int64{7}, 40)
		n := len(r.entries)
		for _, v := range [][]int64{memory[5 : 5+n], memory[5 : 4+n], memory[5 : 6+n]} {
			wantWritten(t, api.Ubx{Class: r.class, ID: r.id, V: v})
		}
		if !slices.Equal(memory, slices.Repeat([]int64{7}, 40)) {
			t.Errorf("%s: the memory about the values is another one", r.name)
		}
	}
}

// P12.2: all classes and ids: ErrNone ahead of ErrArg of what is none of the kinds, whatever the values.
func TestWriteEachClassAndID(t *testing.T) {
	lists := [][]int64{nil, {0, 0}, {1, 1, 1}, {-1}, make([]int64, 5), make([]int64, 6), make([]int64, 10), make([]int64, 12), {256, 256}, {math.MinInt64, math.MaxInt64}}
	known := 0
	for k := range 65536 {
		class, id := byte(k>>8), byte(k)
		r := rowOf(class, id)
		for _, v := range lists {
			want := api.ErrNone
			if r != nil {
				_, want = payloadOf(api.Ubx{Class: class, ID: id, V: v})
			}
			if want == api.OK {
				known++
			}
			wantFits(t, api.Ubx{Class: class, ID: id, V: v}, want)
		}
	}
	if known != len(rows) {
		t.Errorf("%d kinds, want %d", known, len(rows))
	}
}

// P12.2: classes and ids beside those of the table, with the values of the kind beside them, and with those that do not fit.
func TestWriteBesideTheTable(t *testing.T) {
	for _, r := range rows {
		for _, d := range []byte{1, 2, 16, 128, 255, 254} {
			for _, v := range [][]int64{nil, middle(r).V, {-1}, slices.Repeat([]int64{math.MaxInt64}, len(r.entries))} {
				wantWritten(t, api.Ubx{Class: r.class + d, ID: r.id, V: v})
				wantWritten(t, api.Ubx{Class: r.class, ID: r.id + d, V: v})
			}
		}
		wantWritten(t, api.Ubx{Class: r.id, ID: r.class, V: middle(r).V})
	}
	wantFits(t, api.Ubx{}, api.ErrNone)
}

// P12.2: bytes where no field stands are noughts; a value changes the bytes of its own field alone.
func TestWriteBytesOfNoField(t *testing.T) {
	random := rand.New(rand.NewSource(125))
	for _, r := range rows {
		for range 100 {
			u := drawnMessage(random, r)
			b, e := Payload(u)
			if e != api.OK || len(b) != r.length {
				t.Fatalf("%s: %x, %d", r.name, b, e)
			}
			for at, isField := range r.places() {
				if !isField && b[at] != 0 {
					t.Fatalf("%s: the byte %d is %d", r.name, at, b[at])
				}
			}
			i := random.Intn(len(r.entries))
			f := r.entries[i]
			other, _ := Payload(withValue(u, i, f.drawnValue(random)))
			copy(other[f.place:f.place+f.length], b[f.place:])
			if !bytes.Equal(other, b) {
				t.Fatalf("%s: %s changes bytes of others: %x, %x", r.name, f.name, b, other)
			}
		}
	}
}

// P12.2: what is told is in memory of its own: the payload, the frame, the values and what was handed in share none.
func TestOwnMemory(t *testing.T) {
	for _, r := range rows {
		u := middle(r)
		payload, _ := Payload(u)
		all, _ := Encode(u)
		wantPayload, wantAll := slices.Clone(payload), slices.Clone(all)
		back, _ := Decode(r.class, r.id, payload)
		for i := range u.V {
			u.V[i] = 1
		}
		if !bytes.Equal(payload, wantPayload) || !bytes.Equal(all, wantAll) {
			t.Errorf("%s: what was told goes by the values", r.name)
		}
		clear(payload)
		if !bytes.Equal(all, wantAll) || !sameMessage(back, middle(r)) {
			t.Errorf("%s: what was told goes by the payload", r.name)
		}
	}
}

// P12.2: the chapter's examples, and frames written out by hand.
func TestEncodeKnown(t *testing.T) {
	for _, x := range []struct {
		u    api.Ubx
		want string
	}{
		{api.Ubx{Class: 5, ID: 1, V: []int64{6, 1}}, "B5 62 05 01 02 00 06 01 0F 38"},
		{api.Ubx{Class: 6, ID: 1, V: []int64{1, 7, 1}}, "B5 62 06 01 03 00 01 07 01 13 51"},
		// The command for one measurement a second, as it is widely known.
		{api.Ubx{Class: 6, ID: 8, V: []int64{1000, 1, 1}}, "B5 62 06 08 06 00 E8 03 01 00 01 00 01 39"},
		{api.Ubx{Class: 5, ID: 0, V: []int64{6, 8}}, "B5 62 05 00 02 00 06 08 15 3A"},
		{api.Ubx{Class: 13, ID: 1, V: []int64{6000, 0, -1, 2000, 2, 33}}, "B5 62 0D 01 10 00 70 17 00 00 00 00 00 00 FF FF FF FF D0 07 02 21 9B F0"},
		{api.Ubx{Class: 6, ID: 49, V: []int64{1, -2, 1000000, 100000, 0x6F}}, "B5 62 06 31 20 00 01 00 00 00 FE FF 00 00 40 42 0F 00 00 00 00 00 A0 86 01 00 00 00 00 00 00 00 00 00 6F 00 00 00 7C 74"},
		{api.Ubx{Class: 1, ID: 38, V: []int64{1, 2, 3, -4, 5, -6, -7, 8, 9, 10}}, "B5 62 01 26 18 00 01 00 00 00 02 00 00 00 03 FC 05 FA F9 FF FF FF 08 00 09 00 00 00 00 0A 51 C8"},
		{api.Ubx{Class: 1, ID: 33, V: []int64{1, 2, -3, 2026, 11, 20, 23, 59, 58, 7}}, "B5 62 01 21 14 00 01 00 00 00 02 00 00 00 FD FF FF FF EA 07 0B 14 17 3B 3A 07 D6 68"},
		{api.Ubx{Class: 1, ID: 32, V: []int64{123456789, -1000, 1930, 18, 7, 25}}, "B5 62 01 20 10 00 15 CD 5B 07 18 FC FF FF 8A 07 12 07 19 00 00 00 4A 91"},
		{api.Ubx{Class: 1, ID: 7, V: []int64{123456789, 2026, 11, 20, 23, 59, 60, 0x37, 25, -996488704, 3, 1}}, "B5 62 01 07 5C 00 15 CD 5B 07 EA 07 0B 14 17 3B 3C 37 19 00 00 00 00 CA 9A C4 03 01" + strings.Repeat(" 00", 70) + " C2 91"},
	} {
		want, err := hex.DecodeString(strings.ReplaceAll(x.want, " ", ""))
		if err != nil {
			t.Fatal(err)
		}
		got, e := Encode(x.u)
		if e != api.OK || !bytes.Equal(got, want) {
			t.Errorf("%v: % X, %d, want % X", x.u, got, e, want)
		}
	}
}
