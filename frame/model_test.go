package frame

import (
	"bytes"
	"math/rand"
	"testing"

	"remontoire/api"
	"remontoire/ring"
)

// What the tests hold the package against: the table's bytes, place by place.

func xorOf(b []byte) byte {
	sum := byte(0)
	for _, x := range b {
		sum ^= x
	}
	return sum
}

func fletcherOf(b []byte) (byte, byte) {
	first, second := 0, 0
	for i, x := range b {
		first += int(x)
		second += int(x) * (len(b) - i)
	}
	return byte(first % 256), byte(second % 256)
}

func fifteenOf(b []byte) int {
	sum := 0
	for _, x := range b {
		sum += int(x)
	}
	return sum % 32768
}

func digitOf(n byte) byte {
	if n < 10 {
		return '0' + n
	}
	return 'A' + n - 10
}

func textOf(x byte) bool {
	return 32 <= x && x <= 126 && x != '$' && x != '*'
}

// A place is told of a row: whether its last byte is one that the table has there, if those ahead of it are, and whether the frame ends with it.
type place func(row []byte, size int) (may, ends bool)

func nmeaPlace(row []byte, _ int) (may, ends bool) {
	i := len(row) - 1
	x, star := row[i], bytes.IndexByte(row, '*')
	switch {
	case i == 0:
		return x == '$', false
	case star < 0:
		return i <= 76 && textOf(x), false
	case i == star:
		return true, false
	case i == star+1:
		return x == digitOf(xorOf(row[1:star])/16), false
	case i == star+2:
		return x == digitOf(xorOf(row[1:star])%16), false
	case i == star+3:
		return x == 13, false
	}
	return x == 10, true
}

func ubxPlace(row []byte, size int) (may, ends bool) {
	i := len(row) - 1
	x := row[i]
	switch i {
	case 0:
		return x == 181, false
	case 1:
		return x == 98, false
	case 2, 3, 4:
		return true, false
	}
	n := int(row[4]) + 256*int(row[5])
	if i == 5 {
		return n <= 512 && 8+n <= size, false
	}
	if i < 6+n {
		return true, false
	}
	first, second := fletcherOf(row[2 : 6+n])
	if i == 6+n {
		return x == first, false
	}
	return x == second, true
}

func sirfPlace(row []byte, size int) (may, ends bool) {
	i := len(row) - 1
	x := row[i]
	switch i {
	case 0:
		return x == 160, false
	case 1:
		return x == 162, false
	case 2:
		return true, false
	}
	n := 256*int(row[2]) + int(row[3])
	switch i {
	case 3:
		return n <= 1023 && 8+n <= size, false
	case 4 + n:
		return int(x) == fifteenOf(row[4:i])/256, false
	case 5 + n:
		return int(x) == fifteenOf(row[4:i-1])%256, false
	case 6 + n:
		return x == 176, false
	case 7 + n:
		return x == 179, true
	}
	return true, false
}

func bodyOf(kind uint8, row []byte) []byte {
	n := len(row)
	switch kind {
	case api.FrameNMEA:
		return bytes.Clone(row[1 : n-5])
	case api.FrameUBX:
		return append(bytes.Clone(row[2:4]), row[6:n-2]...)
	}
	return bytes.Clone(row[4 : n-4])
}

// model is what a ring should hold.
type model struct {
	size int
	held []byte
}

func (m *model) put(b []byte) {
	m.held = append(m.held, b...)
	m.held = bytes.Clone(m.held[max(0, len(m.held)-m.size):])
}

// stands is what stands at the begin; of a whole frame also itself and its length.
func (m *model) stands() (api.Frame, int, state) {
	got := wrong
	for i, p := range []place{nmeaPlace, ubxPlace, sirfPlace} {
		kind := uint8(i + 1)
		may, ends, n := true, false, 0
		for may && !ends && n < len(m.held) {
			n++
			may, ends = p(m.held[:n], m.size)
		}
		if may && ends {
			return api.Frame{Kind: kind, Body: bodyOf(kind, m.held[:n])}, n, whole
		}
		if may {
			got = short
		}
	}
	if len(m.held) == m.size {
		got = wrong
	}
	return api.Frame{}, 0, got
}

func (m *model) next() (api.Frame, bool, int) {
	dropped := 0
	for {
		f, n, s := m.stands()
		switch s {
		case wrong:
			m.held = m.held[1:]
			dropped++
		case whole:
			m.held = m.held[n:]
			return f, true, dropped
		case short:
			return api.Frame{}, false, dropped
		}
	}
}

func (m *model) all() ([]api.Frame, int) {
	var frames []api.Frame
	dropped := 0
	for {
		f, ok, n := m.next()
		dropped += n
		if !ok {
			return frames, dropped
		}
		frames = append(frames, f)
	}
}

// nmeaRow, ubxRow, sirfRow are the bytes of frames, whatever their bodies are: also of those that may not be.
func nmeaRow(body string) []byte {
	sum := xorOf([]byte(body))
	return append([]byte("$"+body+"*"), digitOf(sum/16), digitOf(sum%16), 13, 10)
}

func ubxRow(body []byte) []byte {
	n := len(body) - 2
	row := append([]byte{181, 98, body[0], body[1], byte(n % 256), byte(n / 256)}, body[2:]...)
	first, second := fletcherOf(row[2:])
	return append(row, first, second)
}

func sirfRow(body []byte) []byte {
	n, sum := len(body), fifteenOf(body)
	row := append([]byte{160, 162, byte(n / 256), byte(n % 256)}, body...)
	return append(row, byte(sum/256), byte(sum%256), 176, 179)
}

func rowOf(f api.Frame) []byte {
	switch f.Kind {
	case api.FrameNMEA:
		return nmeaRow(string(f.Body))
	case api.FrameUBX:
		return ubxRow(f.Body)
	}
	return sirfRow(f.Body)
}

func nmeaFrame(body string) api.Frame {
	return api.Frame{Kind: api.FrameNMEA, Body: []byte(body)}
}

func ubxFrame(body ...byte) api.Frame {
	return api.Frame{Kind: api.FrameUBX, Body: body}
}

func sirfFrame(body ...byte) api.Frame {
	return api.Frame{Kind: api.FrameSiRF, Body: body}
}

func drawn(r *rand.Rand, n int) []byte {
	out := make([]byte, n)
	r.Read(out)
	return out
}

// drawnText is so many bytes that may stand in an NMEA body.
func drawnText(r *rand.Rand, n int) []byte {
	out := make([]byte, n)
	for i := range out {
		for !textOf(out[i]) {
			out[i] = byte(r.Intn(256))
		}
	}
	return out
}

// ofLength is a drawn frame of so many bytes in all.
func ofLength(r *rand.Rand, kind uint8, n int) api.Frame {
	if kind == api.FrameNMEA {
		return api.Frame{Kind: kind, Body: drawnText(r, n-6)}
	}
	if kind == api.FrameUBX {
		return api.Frame{Kind: kind, Body: drawn(r, n-6)}
	}
	return api.Frame{Kind: kind, Body: drawn(r, n-8)}
}

// shortest and longest are how many bytes a frame of each kind has.
var (
	shortest = [4]int{0, 6, 8, 8}
	longest  = [4]int{0, 82, 520, 1031}
)

// some are frames of each kind, of the shortest bodies, the longest ones, and others.
func some(r *rand.Rand) []api.Frame {
	frames := []api.Frame{nmeaFrame("A"), nmeaFrame("GPZDA,123519,04,07,2002,00,00"), ubxFrame(5, 1, 6, 1), ubxFrame(181, 98, 181, 98), sirfFrame(11, 166), sirfFrame(160, 162, 0, 1, 176, 179)}
	for kind := api.FrameNMEA; kind <= api.FrameSiRF; kind++ {
		for _, n := range []int{shortest[kind], shortest[kind] + 1, shortest[kind] + 2, 40, 63, 64, 65, longest[kind] - 1, longest[kind]} {
			frames = append(frames, ofLength(r, kind, n))
		}
	}
	return frames
}

// made is a ring of that size, that holds these bytes, and its model; nothing was lost.
func made(t *testing.T, size int, rows ...[]byte) (*ring.Ring, *model) {
	t.Helper()
	r, e := ring.New(size)
	if e != api.OK {
		t.Fatalf("a ring of %d: %d", size, e)
	}
	m := &model{size: size}
	for _, row := range rows {
		r.Put(row)
		m.put(row)
	}
	if r.Lost() != 0 {
		t.Fatalf("a ring of %d: %d lost", size, r.Lost())
	}
	return r, m
}

func isLike(f, g api.Frame) bool {
	return f.Kind == g.Kind && bytes.Equal(f.Body, g.Body)
}

// wantNext asks Next, and what the ring holds then.
func wantNext(t *testing.T, r *ring.Ring, want api.Frame, there bool, dropped int, left []byte) {
	t.Helper()
	held, lost := r.Peek(r.Len()), r.Lost()
	f, ok, n := Next(r)
	if ok != there || n != dropped || !isLike(f, want) || !ok && f.Body != nil {
		t.Fatalf("ring of %d, %d held %v: Next %v, %v, %d, want %v, %v, %d", r.Size(), len(held), held, f, ok, n, want, there, dropped)
	}
	if got := r.Peek(r.Len()); !bytes.Equal(got, left) || r.Lost() != lost {
		t.Fatalf("ring of %d, %d held %v: left %v, want %v; %d lost, want %d", r.Size(), len(held), held, got, left, r.Lost(), lost)
	}
}

// wantLike asks Next again and again, and All of a copy, as the model tells.
func wantLike(t *testing.T, r *ring.Ring, m *model) {
	t.Helper()
	wantAll(t, r.Copy(), &model{size: m.size, held: m.held})
	for ok := true; ok; {
		var want api.Frame
		var dropped int
		want, ok, dropped = m.next()
		wantNext(t, r, want, ok, dropped, m.held)
	}
}

func wantAll(t *testing.T, r *ring.Ring, m *model) {
	t.Helper()
	held, lost := r.Peek(r.Len()), r.Lost()
	want, dropped := m.all()
	frames, n := All(r)
	same := len(frames) == len(want)
	for i := 0; same && i < len(want); i++ {
		same = isLike(frames[i], want[i])
	}
	if !same || n != dropped {
		t.Fatalf("ring of %d, %d held %v: All %v, %d, want %v, %d", r.Size(), len(held), held, frames, n, want, dropped)
	}
	if got := r.Peek(r.Len()); !bytes.Equal(got, m.held) || r.Lost() != lost {
		t.Fatalf("ring of %d, %d held %v: All left %v, want %v; %d lost, want %d", r.Size(), len(held), held, got, m.held, r.Lost(), lost)
	}
}
