package ubx

import (
	"bytes"
	"fmt"
	"math/rand"
	"testing"

	"remontoire/api"
)

// P12.1: payloads of all bytes the same, of counted and of drawn bytes.
func TestDecodeEachKind(t *testing.T) {
	random := rand.New(rand.NewSource(121))
	for _, r := range rows {
		for x := range 256 {
			wantDecode(t, r.class, r.id, bytes.Repeat([]byte{byte(x)}, r.length))
		}
		counted := make([]byte, r.length)
		for i := range counted {
			counted[i] = byte(i + 1)
		}
		wantDecode(t, r.class, r.id, counted)
		for range 500 {
			wantDecode(t, r.class, r.id, drawnPayload(random, r.length))
		}
	}
}

// P12.1: each byte alone goes to the field in which it stands, and to no other one.
func TestDecodeEachPlace(t *testing.T) {
	for _, r := range rows {
		for at := range r.length {
			for _, base := range []byte{0, 255} {
				for _, x := range []byte{0, 1, 127, 128, 254, 255} {
					payload := bytes.Repeat([]byte{base}, r.length)
					payload[at] = x
					wantDecode(t, r.class, r.id, payload)
				}
			}
		}
	}
}

// P12.1: each field at its least and its greatest value, and beside them, with any bytes about it.
func TestDecodeEachEdge(t *testing.T) {
	random := rand.New(rand.NewSource(122))
	for _, r := range rows {
		for i, f := range r.entries {
			for _, value := range []int64{f.least(), f.least() + 1, -1, 0, 1, f.most() / 2, f.most() - 1, f.most()} {
				if value < f.least() {
					continue
				}
				payload := drawnPayload(random, r.length)
				f.lay(payload, value)
				wantDecode(t, r.class, r.id, payload)
				if u, e := Decode(r.class, r.id, payload); e != api.OK || u.V[i] != value {
					t.Fatalf("%s, %s: %v, %d, want %d there", r.name, f.name, u, e, value)
				}
			}
		}
	}
}

// P12.1: all bytes may stand where no field stands.
func TestDecodeBytesOfNoField(t *testing.T) {
	random := rand.New(rand.NewSource(123))
	for _, r := range rows {
		for range 100 {
			payload := drawnPayload(random, r.length)
			want, _ := Decode(r.class, r.id, payload)
			for at, isField := range r.places() {
				if !isField {
					payload[at] = byte(random.Intn(256))
				}
			}
			if got, e := Decode(r.class, r.id, payload); e != api.OK || !sameMessage(got, want) {
				t.Fatalf("%s: %v, %d, want %v", r.name, got, e, want)
			}
		}
	}
}

// places are which bytes of a row's payload are of a field.
func (r row) places() []bool {
	out := make([]bool, r.length)
	for _, f := range r.entries {
		for i := range f.length {
			out[f.place+i] = true
		}
	}
	return out
}

// P12.1: each length beside the one that the kind has, none and far ones among them.
func TestDecodeOtherLengths(t *testing.T) {
	for _, r := range rows {
		far := []int{r.length + 256, r.length + 512, 1023, 65535, 65536, 65536 + r.length, 1 << 20}
		for n := range 600 {
			far = append(far, n)
		}
		for _, n := range far {
			want := api.ErrForm
			if n == r.length {
				want = api.OK
			}
			if u, e := Decode(r.class, r.id, make([]byte, n)); e != want || (e != api.OK && !noMessage(u)) {
				t.Fatalf("%s of %d bytes: %v, %d, want %d", r.name, n, u, e, want)
			}
		}
		if u, e := Decode(r.class, r.id, nil); e != api.ErrForm || !noMessage(u) {
			t.Errorf("%s of no payload: %v, %d", r.name, u, e)
		}
	}
}

func noMessage(u api.Ubx) bool { return u.Class == 0 && u.ID == 0 && len(u.V) == 0 }

// P12.1: a payload's length is that of the slice, not that of the memory behind it.
func TestDecodeOfASlice(t *testing.T) {
	for _, r := range rows {
		memory := bytes.Repeat([]byte{9}, 200)
		wantDecode(t, r.class, r.id, memory[50:50+r.length])
		wantDecode(t, r.class, r.id, memory[50:50+r.length-1])
		wantDecode(t, r.class, r.id, memory[50:51+r.length])
		if !bytes.Equal(memory, bytes.Repeat([]byte{9}, 200)) {
			t.Errorf("%s: the memory about the payload is another one", r.name)
		}
	}
}

// P12.1: all classes and ids: ErrNone ahead of ErrForm of what is none of the kinds, whatever the payload.
func TestDecodeEachClassAndID(t *testing.T) {
	lengths := []int{0, 1, 2, 3, 6, 16, 20, 24, 32, 92, 512}
	known := 0
	for k := range 65536 {
		class, id := byte(k>>8), byte(k)
		r := rowOf(class, id)
		for _, n := range lengths {
			want := api.ErrNone
			switch {
			case r != nil && n == r.length:
				want = api.OK
				known++
			case r != nil:
				want = api.ErrForm
			}
			if u, e := Decode(class, id, make([]byte, n)); e != want || (e != api.OK && !noMessage(u)) {
				t.Fatalf("Decode of %d, %d, %d bytes: %v, %d, want %d", class, id, n, u, e, want)
			}
		}
	}
	if known != len(rows) {
		t.Errorf("%d kinds, want %d", known, len(rows))
	}
}

// P12.1: classes and ids beside those of the table, with payloads of the kind beside them.
func TestDecodeBesideTheTable(t *testing.T) {
	for _, r := range rows {
		for _, d := range []byte{1, 2, 16, 128, 255, 254} {
			for _, n := range []int{0, r.length - 1, r.length, r.length + 1, 1 << 20} {
				wantDecode(t, r.class+d, r.id, make([]byte, n))
				wantDecode(t, r.class, r.id+d, make([]byte, n))
			}
		}
		wantDecode(t, r.id, r.class, make([]byte, r.length))
	}
	if u, e := Decode(0, 0, nil); e != api.ErrNone || !noMessage(u) {
		t.Error(u, e)
	}
}

// P12.1: payloads written out by hand.
func TestDecodeByHand(t *testing.T) {
	for _, x := range []struct {
		class, id byte
		payload   []byte
		want      string
	}{
		{5, 1, []byte{6, 1}, "{5 1 [6 1]}"},
		{5, 0, []byte{6, 8}, "{5 0 [6 8]}"},
		{6, 1, []byte{1, 7, 1}, "{6 1 [1 7 1]}"},
		{6, 8, []byte{0xE8, 3, 1, 0, 0xFF, 0xFF}, "{6 8 [1000 1 65535]}"},
		{13, 1, []byte{0x70, 0x17, 0, 0, 0, 0, 0, 0, 0xFF, 0xFF, 0xFF, 0xFF, 0xD0, 7, 2, 0x21}, "{13 1 [6000 0 -1 2000 2 33]}"},
		{1, 32, []byte{0, 0, 0, 0x80, 0, 0, 0, 0x80, 0, 0x80, 0x80, 0x80, 0xFF, 0xFF, 0xFF, 0x7F}, "{1 32 [2147483648 -2147483648 32768 -128 128 2147483647]}"},
	} {
		u, e := Decode(x.class, x.id, x.payload)
		if got := fmt.Sprint(u); got != x.want || e != api.OK {
			t.Errorf("%d, %d, %x: %s, %d, want %s", x.class, x.id, x.payload, got, e, x.want)
		}
	}
}
