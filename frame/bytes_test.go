package frame

import (
	"bytes"
	"math/rand"
	"testing"

	"remontoire/api"
)

// wantBytes asks Bytes twice, that the body stays as it was, and that what is told is in memory of its own.
func wantBytes(t *testing.T, f api.Frame, want []byte) {
	t.Helper()
	given := bytes.Clone(f.Body)
	for range 2 {
		got, e := Bytes(f)
		if e != api.OK || !bytes.Equal(got, want) {
			t.Fatalf("Bytes of %v: %v, %d, want %v", f, got, e, want)
		}
		for i := range got {
			got[i] = 200
		}
		if !bytes.Equal(f.Body, given) {
			t.Fatalf("Bytes changed %v to %v", given, f.Body)
		}
	}
}

func wantRefused(t *testing.T, f api.Frame, want api.Errno) {
	t.Helper()
	given := bytes.Clone(f.Body)
	if got, e := Bytes(f); e != want || len(got) != 0 {
		t.Fatalf("Bytes of kind %d, a body of %d bytes %v: %v, %d, want %d", f.Kind, len(f.Body), f.Body, got, e, want)
	}
	if !bytes.Equal(f.Body, given) {
		t.Fatalf("Bytes changed %v to %v", given, f.Body)
	}
}

// P8.2: bodies of all lengths, of each kind; what is written is taken out again.
func TestBytesOfAllLengths(t *testing.T) {
	draw := rand.New(rand.NewSource(21))
	for kind := api.FrameNMEA; kind <= api.FrameSiRF; kind++ {
		for n := shortest[kind]; n <= longest[kind]; n++ {
			f := ofLength(draw, kind, n)
			if kind == api.FrameUBX && len(f.Body) < 2 {
				continue
			}
			wantBytes(t, f, rowOf(f))
			all, _ := Bytes(f)
			r, _ := made(t, 1100, all)
			wantNext(t, r, f, true, 0, nil)
		}
	}
}

// P8.2: bodies of no byte.
func TestBytesOfNoBody(t *testing.T) {
	for _, body := range [][]byte{nil, {}, make([]byte, 0, 10)} {
		wantBytes(t, api.Frame{Kind: api.FrameNMEA, Body: body}, []byte("$*00\r\n"))
		wantBytes(t, api.Frame{Kind: api.FrameSiRF, Body: body}, []byte{160, 162, 0, 0, 0, 0, 176, 179})
		wantRefused(t, api.Frame{Kind: api.FrameUBX, Body: body}, api.ErrShort)
	}
}

// P8.2: UBX bodies of 0, 1 and 2 bytes.
func TestBytesOfShortUBX(t *testing.T) {
	wantRefused(t, ubxFrame(), api.ErrShort)
	for x := range 256 {
		wantRefused(t, ubxFrame(byte(x)), api.ErrShort)
	}
	wantBytes(t, ubxFrame(1, 2), []byte{181, 98, 1, 2, 0, 0, 3, 10})
	wantBytes(t, ubxFrame(1, 2, 3), []byte{181, 98, 1, 2, 1, 0, 3, 7, 19})
}

// P8.2: bodies of the most bytes, of one more, and of many more.
func TestBytesTooLong(t *testing.T) {
	text := bytes.Repeat([]byte("A"), 70000)
	for kind, most := range map[uint8]int{api.FrameNMEA: 76, api.FrameUBX: 514, api.FrameSiRF: 1023} {
		f := api.Frame{Kind: kind, Body: text[:most]}
		wantBytes(t, f, rowOf(f))
		for _, n := range []int{most + 1, most + 2, most + 6, 2 * most, 1100, 65535, 65536, 65537, 65538, 65540, 70000} {
			wantRefused(t, api.Frame{Kind: kind, Body: text[:n]}, api.ErrLong)
		}
	}
}

// P8.2: ErrForm at any place of a body; of the other kinds all bytes may be.
func TestBytesForm(t *testing.T) {
	for _, n := range []int{1, 2, 40, 75, 76} {
		for place := range n {
			for _, x := range []byte{0, 10, 13, 31, 36, 42, 127, 128, 255} {
				body := bytes.Repeat([]byte("A"), n)
				body[place] = x
				wantRefused(t, api.Frame{Kind: api.FrameNMEA, Body: body}, api.ErrForm)
				for _, f := range []api.Frame{{Kind: api.FrameUBX, Body: append(body, 'A')}, {Kind: api.FrameSiRF, Body: body}} {
					wantBytes(t, f, rowOf(f))
				}
			}
		}
	}
}

// P8.2, P1: kinds that are none of the three, whatever their bodies are.
func TestBytesOfNoKind(t *testing.T) {
	for kind := range 256 {
		if kind >= 1 && kind <= 3 {
			continue
		}
		for _, body := range [][]byte{nil, {}, {1}, {1, 2}, []byte("A"), []byte("$"), make([]byte, 77), make([]byte, 2000)} {
			wantRefused(t, api.Frame{Kind: uint8(kind), Body: body}, api.ErrArg)
		}
	}
}

// P8.2, P1: where several errors apply, the one named first.
func TestBytesOrderOfErrors(t *testing.T) {
	for _, n := range []int{77, 78, 100, 5000} {
		wantRefused(t, api.Frame{Kind: api.FrameNMEA, Body: bytes.Repeat([]byte("$"), n)}, api.ErrLong)
	}
	wantRefused(t, nmeaFrame(string(bytes.Repeat([]byte("$"), 76))), api.ErrForm)
}

// P8.2: what stands behind the body in the same memory is neither asked nor changed.
func TestBytesWithinMemory(t *testing.T) {
	draw := rand.New(rand.NewSource(22))
	for kind := api.FrameNMEA; kind <= api.FrameSiRF; kind++ {
		room := drawnText(draw, 200)
		given := bytes.Clone(room)
		for n := 2; n <= 76; n++ {
			f := api.Frame{Kind: kind, Body: room[50 : 50+n]}
			wantBytes(t, f, rowOf(api.Frame{Kind: kind, Body: given[50 : 50+n]}))
			if !bytes.Equal(room, given) {
				t.Fatalf("kind %d, a body of %d bytes: the memory about it has changed", kind, n)
			}
		}
	}
}
