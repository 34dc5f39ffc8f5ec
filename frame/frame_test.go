package frame

import (
	"bytes"
	"math/rand"
	"testing"

	"remontoire/api"
	"remontoire/ring"
)

// joined is rows, one behind the other.
func joined(rows ...[]byte) []byte { return bytes.Join(rows, nil) }

// wantNone asks that nothing is told, that nothing goes, and that so it stays.
func wantNone(t *testing.T, r *ring.Ring) {
	t.Helper()
	held := r.Peek(r.Len())
	for range 2 {
		wantNext(t, r, api.Frame{}, false, 0, held)
		if frames, n := All(r); len(frames) != 0 || n != 0 {
			t.Fatalf("held %v: All %v, %d", held, frames, n)
		}
	}
}

// P8.1: the chapter's examples.
func TestExamples(t *testing.T) {
	r, _ := made(t, 64, []byte("$A*41\r\n"))
	wantNext(t, r, nmeaFrame("A"), true, 0, nil)
	wantNone(t, r)
	r, _ = made(t, 64, []byte{'x', 181, 98, 1, 2, 0, 0, 3, 10})
	wantNext(t, r, ubxFrame(1, 2), true, 1, nil)
	r, _ = made(t, 64, []byte("$A*42\r\n"))
	wantNext(t, r, api.Frame{}, false, 7, nil)
	r, _ = made(t, 64, []byte("$A"))
	wantNext(t, r, api.Frame{}, false, 0, []byte("$A"))
}

// P8.1, P8.2: frames whose bytes are known elsewhere too.
func TestKnown(t *testing.T) {
	for _, x := range []struct {
		f   api.Frame
		row string
	}{
		{nmeaFrame(""), "$*00\r\n"},
		{nmeaFrame(" "), "$ *20\r\n"},
		{nmeaFrame("~"), "$~*7E\r\n"},
		{nmeaFrame("J"), "$J*4A\r\n"},
		{nmeaFrame("O"), "$O*4F\r\n"},
		{nmeaFrame("GPGGA,123519,4807.038,N,01131.000,E,1,08,0.9,545.4,M,46.9,M,,"), "$GPGGA,123519,4807.038,N,01131.000,E,1,08,0.9,545.4,M,46.9,M,,*47\r\n"},
		{nmeaFrame("GPRMC,123519,A,4807.038,N,01131.000,E,022.4,084.4,230394,003.1,W"), "$GPRMC,123519,A,4807.038,N,01131.000,E,022.4,084.4,230394,003.1,W*6A\r\n"},
		{ubxFrame(5, 1, 6, 1), "\xB5\x62\x05\x01\x02\x00\x06\x01\x0F\x38"},
		{ubxFrame(6, 1, 1, 7, 1), "\xB5\x62\x06\x01\x03\x00\x01\x07\x01\x13\x51"},
		{ubxFrame(0, 0), "\xB5\x62\x00\x00\x00\x00\x00\x00"},
		{sirfFrame(11, 166), "\xA0\xA2\x00\x02\x0B\xA6\x00\xB1\xB0\xB3"},
		{sirfFrame(166, 0, 52, 1, 0, 0, 0, 0), "\xA0\xA2\x00\x08\xA6\x00\x34\x01\x00\x00\x00\x00\x00\xDB\xB0\xB3"},
		{sirfFrame(0x84, 0), "\xA0\xA2\x00\x02\x84\x00\x00\x84\xB0\xB3"},
		{sirfFrame(), "\xA0\xA2\x00\x00\x00\x00\xB0\xB3"},
		{sirfFrame(255, 255, 2), "\xA0\xA2\x00\x03\xFF\xFF\x02\x02\x00\xB0\xB3"},
	} {
		wantBytes(t, x.f, []byte(x.row))
		r, _ := made(t, 100, []byte(x.row))
		wantNext(t, r, x.f, true, 0, nil)
	}
}

// P8.1: each frame alone, wherever the ring's oldest byte stands; what is behind it stays.
func TestAlone(t *testing.T) {
	draw := rand.New(rand.NewSource(1))
	for _, f := range some(draw) {
		row := rowOf(f)
		for _, behind := range []string{"", "$", "x", "$A*41\r\n", "\xB5\x62\x01"} {
			for _, turned := range []int{0, 1, 700, 1039, 1099} {
				r, _ := made(t, 1100, make([]byte, turned))
				r.Drop(turned)
				r.Put(row)
				r.Put([]byte(behind))
				wantNext(t, r, f, true, 0, []byte(behind))
			}
		}
	}
}

// P8.1, 'What follows': frames side by side are taken out as they were written, if the ring has room.
func TestSideBySide(t *testing.T) {
	draw := rand.New(rand.NewSource(2))
	frames := some(draw)
	for range 200 {
		draw.Shuffle(len(frames), func(i, j int) { frames[i], frames[j] = frames[j], frames[i] })
		var row []byte
		var want []api.Frame
		for _, f := range frames {
			if b := rowOf(f); len(row)+len(b) <= 4096 {
				row, want = append(row, b...), append(want, f)
			}
		}
		r, _ := made(t, 4096, row)
		wantFrames(t, r.Copy(), want, 0)
		for i, f := range want {
			row = row[len(rowOf(f)):]
			wantNext(t, r, f, true, 0, row)
			if i == len(want)-1 {
				wantNone(t, r)
			}
		}
	}
}

// wantFrames asks All; nothing is left then.
func wantFrames(t *testing.T, r *ring.Ring, want []api.Frame, dropped int) {
	t.Helper()
	held := r.Peek(r.Len())
	frames, n := All(r)
	if len(frames) != len(want) || n != dropped || r.Len() != 0 {
		t.Fatalf("held %v: All %v, %d, want %v, %d; left %d", held, frames, n, want, dropped, r.Len())
	}
	for i, f := range frames {
		if !isLike(f, want[i]) {
			t.Fatalf("held %v: frame %d is %v, want %v", held, i, f, want[i])
		}
	}
}

// P8.1, 'What follows': bytes that begin no frame, ahead of frames, between them and behind them, are dropped, and nothing else is.
func TestBytesBetween(t *testing.T) {
	draw := rand.New(rand.NewSource(3))
	frames := some(draw)
	for range 300 {
		var row []byte
		var want []api.Frame
		between := 0
		for len(row) < 2500 {
			n := draw.Intn(4) * draw.Intn(30)
			for range n {
				x := byte(draw.Intn(256))
				for x == '$' || x == 181 || x == 160 {
					x = byte(draw.Intn(256))
				}
				row = append(row, x)
			}
			between += n
			f := frames[draw.Intn(len(frames))]
			row, want = append(row, rowOf(f)...), append(want, f)
		}
		r, _ := made(t, 4096, row, []byte("xyz"))
		wantFrames(t, r, want, between+3)
	}
}

// P8.1: how many bytes were dropped ahead of each frame, and behind the last one.
func TestDroppedAtEach(t *testing.T) {
	r, _ := made(t, 64, []byte("ab$A*41\r\n$B*43\r\nc$$B*42\r\n\r\n$C"))
	wantNext(t, r, nmeaFrame("A"), true, 2, []byte("$B*43\r\nc$$B*42\r\n\r\n$C"))
	wantNext(t, r, nmeaFrame("B"), true, 9, []byte("\r\n$C"))
	wantNext(t, r, api.Frame{}, false, 2, []byte("$C"))
	wantNone(t, r)
	r, m := made(t, 64, []byte("ab$A*41\r\n$B*43\r\nc$$B*42\r\n\r\n$C"))
	wantAll(t, r, m)
	r, _ = made(t, 64, []byte("ab$A*41\r\n$B*43\r\nc$$B*42\r\n\r\n$C"))
	if frames, n := All(r); len(frames) != 2 || n != 13 || r.Len() != 2 {
		t.Errorf("All: %v, %d; left %d", frames, n, r.Len())
	}
}

// P8.1: of each byte, alone in a ring and ahead of a frame.
func TestEachByteAlone(t *testing.T) {
	for x := range 256 {
		r, _ := made(t, 64, []byte{byte(x)})
		if x == '$' || x == 181 || x == 160 {
			wantNone(t, r)
			continue
		}
		wantNext(t, r, api.Frame{}, false, 1, nil)
		r, _ = made(t, 64, []byte{byte(x), byte(x)}, []byte("$A*41\r\n"))
		wantNext(t, r, nmeaFrame("A"), true, 2, nil)
	}
}

// P8.1: a frame in two pieces, at all places; the first one is short and stays.
func TestTwoPieces(t *testing.T) {
	draw := rand.New(rand.NewSource(4))
	for _, f := range some(draw) {
		row := rowOf(f)
		for n := range row {
			r, _ := made(t, max(64, len(row)), row[:n])
			wantNone(t, r)
			r.Put(row[n:])
			wantNext(t, r, f, true, 0, nil)
		}
	}
}

// P8.1: frames side by side, byte by byte and in pieces of all sizes; each is told as its last byte comes, also from a ring that has no room for two.
func TestPieceByPiece(t *testing.T) {
	draw := rand.New(rand.NewSource(5))
	frames := some(draw)
	var row []byte
	for _, f := range frames {
		row = append(row, rowOf(f)...)
	}
	for _, piece := range []int{1, 2, 3, 7, 8, 64, 100, 519, 1000} {
		r, m := made(t, 1031+piece-1)
		told := 0
		for at := 0; at < len(row); at += piece {
			part := row[at:min(at+piece, len(row))]
			r.Put(part)
			m.put(part)
			want, _ := (&model{m.size, m.held}).all()
			told += len(want)
			wantLike(t, r, m)
		}
		if told != len(frames) || r.Lost() != 0 || r.Len() != 0 {
			t.Errorf("pieces of %d: %d of %d told, %d lost, %d left", piece, told, len(frames), r.Lost(), r.Len())
		}
	}
}

// P8.1: byte by byte, without a model: none and 0 till the last byte.
func TestByteByByte(t *testing.T) {
	draw := rand.New(rand.NewSource(6))
	for _, f := range some(draw) {
		row := rowOf(f)
		r, _ := made(t, max(64, len(row)))
		for i, x := range row {
			r.Put([]byte{x})
			if i < len(row)-1 {
				wantNext(t, r, api.Frame{}, false, 0, row[:i+1])
			}
		}
		wantNext(t, r, f, true, 0, nil)
	}
}

// P8.1: of a ring that holds nothing, also behind drops.
func TestHoldsNothing(t *testing.T) {
	r, _ := made(t, 64)
	wantNone(t, r)
	r.Put(make([]byte, 64))
	r.Drop(64)
	wantNone(t, r)
}

// P8.1, P1: of no ring, and of one that was not made.
func TestNoRing(t *testing.T) {
	for _, r := range []*ring.Ring{nil, {}} {
		for range 2 {
			if f, ok, n := Next(r); f.Kind != 0 || f.Body != nil || ok || n != 0 {
				t.Errorf("Next: %v, %v, %d", f, ok, n)
			}
			if frames, n := All(r); len(frames) != 0 || n != 0 {
				t.Errorf("All: %v, %d", frames, n)
			}
			r.Put([]byte("$A*41\r\n"))
		}
	}
}

// P8.1: what is told is in memory of its own, also where frames come from one call.
func TestToldIsItsOwn(t *testing.T) {
	draw := rand.New(rand.NewSource(7))
	want := []api.Frame{nmeaFrame("AB"), ubxFrame(1, 2, 3, 4), sirfFrame(5, 6), nmeaFrame("CD"), ubxFrame(7, 8), sirfFrame(9), ofLength(draw, api.FrameUBX, 100), ofLength(draw, api.FrameSiRF, 100)}
	var row []byte
	for _, f := range want {
		row = append(row, rowOf(f)...)
	}
	r, _ := made(t, 300, row)
	other := r.Copy()
	frames, _ := All(r)
	for i := range frames {
		for j, f := range frames {
			if j >= i && !isLike(f, want[j]) {
				t.Fatalf("frame %d: %v, want %v", j, f, want[j])
			}
		}
		body := frames[i].Body[:cap(frames[i].Body)]
		for k := range body {
			body[k] = 99
		}
	}
	for _, f := range want {
		got, _, _ := Next(other)
		other.Put(bytes.Repeat([]byte{98}, 300-other.Len()))
		if !isLike(got, f) {
			t.Fatalf("got %v, want %v", got, f)
		}
		for k := range got.Body {
			got.Body[k] = 97
		}
	}
}

// P8.1, P1: what is told hangs on the rings alone, not on what was told before.
func TestRingsApart(t *testing.T) {
	a, _ := made(t, 64, []byte("$A*"))
	b, _ := made(t, 64, []byte("41\r\n"))
	wantNone(t, a)
	wantNext(t, b, api.Frame{}, false, 4, nil)
	a.Put([]byte("41\r\n"))
	c := a.Copy()
	wantNext(t, a, nmeaFrame("A"), true, 0, nil)
	wantNext(t, c, nmeaFrame("A"), true, 0, nil)
}
