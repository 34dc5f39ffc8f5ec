package frame

import (
	"bytes"
	"math/rand"
	"testing"

	"remontoire/api"
)

// P8.1: each byte of a frame as each other byte: what stands there is wrong at once, if the table has not that byte there.
func TestAnotherByte(t *testing.T) {
	draw := rand.New(rand.NewSource(11))
	for _, f := range []api.Frame{nmeaFrame("GPZDA,12"), ubxFrame(5, 1, 6, 1), sirfFrame(11, 166), nmeaFrame(""), ubxFrame(0, 0), sirfFrame(), ofLength(draw, api.FrameUBX, 20), ofLength(draw, api.FrameSiRF, 20)} {
		row := rowOf(f)
		for i := range row {
			for x := range 256 {
				turned := bytes.Clone(row)
				turned[i] = byte(x)
				r, m := made(t, 64, turned)
				wantLike(t, r, m)
				r, m = made(t, 64, turned[:i+1])
				wantLike(t, r, m)
				r, m = made(t, 64, turned, []byte("$A*41\r\n"), turned)
				wantLike(t, r, m)
			}
		}
	}
}

// P8.1: one byte of a long frame as another one.
func TestAnotherByteOfLong(t *testing.T) {
	draw := rand.New(rand.NewSource(12))
	for kind := api.FrameNMEA; kind <= api.FrameSiRF; kind++ {
		row := rowOf(ofLength(draw, kind, longest[kind]))
		for i := range row {
			turned := bytes.Clone(row)
			turned[i] ^= byte(1 + draw.Intn(255))
			r, m := made(t, 1100, turned, []byte("$A*41\r\n"))
			wantLike(t, r, m)
		}
	}
}

// wantWrong asks that a row is wrong at its last byte and short without it; what is behind its first byte begins nothing.
func wantWrong(t *testing.T, size int, row []byte) {
	t.Helper()
	r, _ := made(t, size, row[:len(row)-1])
	wantNone(t, r)
	r.Put(row[len(row)-1:])
	wantNext(t, r, api.Frame{}, false, len(row), nil)
}

// P8.1: each kind of wrongness, told as soon as the byte is there.
func TestWrongAtOnce(t *testing.T) {
	for _, row := range []string{
		"$A\n", "$A\r", "$\x1F", "$\x7F", "$AB\x00", "$A\xFF", // a byte of the body
		"$A*5", "$A*0", "$A**", "$A*40", "$A*4\r", "$A*4 ", "$J*4a", "$O*4f", "$J*4B", // of the sum
		"$A*41\n", "$A*41\t", "$A*411", "$A*41\r\r", "$A*41\rA", "$A*41\r\x00", // of the end
		"\xB5\x63", "\xB5\x61", "\xB5\x00", "\xB5A", // of the begin
		"\xB5\x62\x01\x02\x00\x00\x02", "\xB5\x62\x01\x02\x00\x00\x03\x0B", // of the sums
		"\xB5\x62\x01\x02\x01\x00\x05\x00", "\xB5\x62\x01\x02\x01\x00\x05\x09\x1D",
		"\xA0\xA1", "\xA0\xA3", "\xA0\x00", "\xA0B",
		"\xA0\xA2\x00\x02\x0B\xA6\x01", "\xA0\xA2\x00\x02\x0B\xA6\x00\xB2",
		"\xA0\xA2\x00\x02\x0B\xA6\x00\xB1\xB1", "\xA0\xA2\x00\x02\x0B\xA6\x00\xB1\xB3", "\xA0\xA2\x00\x02\x0B\xA6\x00\xB1\xB0\xB0", "\xA0\xA2\x00\x02\x0B\xA6\x00\xB1\xB0\xB2",
		"\xA0\xA2\x00\x00\x00\x01", "\xA0\xA2\x00\x00\x80",
	} {
		wantWrong(t, 64, []byte(row))
	}
}

// P8.1: a wrong byte that begins a frame itself.
func TestWrongByteBegins(t *testing.T) {
	for _, ahead := range []string{"$", "$A", "$A*", "$A*4", "$A*41", "$A*41\r", "\xB5", "\xB5\x62\x01\x02\x00\x00", "\xB5\x62\x01\x02\x00\x00\x03", "\xA0", "\xA0\xA2\x00\x00", "\xA0\xA2\x00\x00\x00", "\xA0\xA2\x00\x00\x00\x00", "\xA0\xA2\x00\x00\x00\x00\xB0", "$$$$", "\xB5\xB5", "\xA0\xA0"} {
		for _, f := range []api.Frame{nmeaFrame("GPZDA,,,,,00,00"), ubxFrame(5, 1, 6, 1), sirfFrame(11, 166)} {
			r, _ := made(t, 64, []byte(ahead))
			r.Put(rowOf(f)[:1])
			wantNext(t, r, api.Frame{}, false, len(ahead), rowOf(f)[:1])
			r, _ = made(t, 64, []byte(ahead), rowOf(f), []byte("$"))
			wantNext(t, r, f, true, len(ahead), []byte("$"))
		}
	}
}

// P8.1: a frame within bytes that are wrong as a whole: one byte is dropped at a time, so that it is found.
func TestWithinWrong(t *testing.T) {
	inner := []api.Frame{nmeaFrame("A"), ubxFrame(1, 2, 3), sirfFrame(4, 5)}
	body := []byte{9, 9}
	for _, f := range inner {
		body = append(body, rowOf(f)...)
	}
	for _, outer := range [][]byte{ubxRow(body), sirfRow(body)} {
		r, _ := made(t, 64, outer)
		got, _, _ := Next(r)
		if !isLike(got, api.Frame{Kind: got.Kind, Body: body}) {
			t.Fatalf("got %v", got)
		}
		for _, place := range []int{len(outer) - 1, len(outer) - 2} {
			turned := bytes.Clone(outer)
			turned[place]++
			r, m := made(t, 64, turned)
			around := len(outer) - len(body) + 2
			wantFrames(t, r.Copy(), inner, around)
			wantLike(t, r, m)
		}
	}
	// A sentence that ends where another one begins, and a length that reaches into frames behind.
	r, _ := made(t, 100, []byte("$GPRMC,1235$A*41\r\n"))
	wantNext(t, r, nmeaFrame("A"), true, 11, nil)
	r, _ = made(t, 100, []byte("\xB5\x62\x01\x02\x07\x00"), nmeaRow("A"), nmeaRow("B"), nmeaRow("C"))
	wantFrames(t, r, []api.Frame{nmeaFrame("A"), nmeaFrame("B"), nmeaFrame("C")}, 6)
	r, _ = made(t, 100, []byte("\xA0\xA2\x00\x09"), nmeaRow("A"), nmeaRow("B"), nmeaRow("C"))
	wantFrames(t, r, []api.Frame{nmeaFrame("A"), nmeaFrame("B"), nmeaFrame("C")}, 4)
}

// P8.1: a frame within one that is short waits, till that one is whole, or wrong.
func TestWithinShort(t *testing.T) {
	for _, ahead := range []string{"\xB5\x62\x01\x02\x10\x00", "\xA0\xA2\x00\x10"} {
		r, _ := made(t, 64, []byte(ahead), nmeaRow("A"))
		wantNone(t, r)
		r.Put([]byte("123456789"))
		wantNone(t, r)
		r.Put([]byte{0})
		wantNext(t, r, nmeaFrame("A"), true, len(ahead), []byte("123456789\x00"))
	}
}

// P8.1: lengths of all sizes in rings of some: those of the most and one more, and those that the ring has room for and one more.
func TestLengths(t *testing.T) {
	for _, size := range []int{64, 65, 255, 256, 263, 264, 265, 519, 520, 521, 1030, 1031, 1032, 4096} {
		for n := range 65536 {
			if n > 1100 && n%251 != 0 && n&255 > 3 && n < 65530 {
				continue
			}
			wantLength(t, size, []byte{181, 98, 1, 2, byte(n % 256), byte(n / 256)}, n <= 512 && n+8 <= size)
			wantLength(t, size, []byte{160, 162, byte(n / 256), byte(n % 256)}, n <= 1023 && n+8 <= size)
		}
	}
}

// wantLength asks of a row up to its length whether that may be: without its last byte it is short in any case.
func wantLength(t *testing.T, size int, row []byte, may bool) {
	t.Helper()
	n := len(row)
	r, m := made(t, size, row[:n-1])
	wantNext(t, r, api.Frame{}, false, 0, row[:n-1])
	r.Put(row[n-1:])
	m.put(row[n-1:])
	if may {
		wantNone(t, r)
		return
	}
	wantStands(t, m, wrong)
	wantLike(t, r, m)
}

// wantStands asks the model, so that it is known what a test goes by.
func wantStands(t *testing.T, m *model, want state) {
	t.Helper()
	if _, _, s := m.stands(); s != want {
		t.Fatalf("ring of %d, held %v: the model's state is %d, want %d", m.size, m.held, s, want)
	}
}

// P8.1: in a ring of each size frames that just fit, and ones of one byte more, which are dropped: with a length as soon as that is there, others as the ring is full.
func TestFrameAsLongAsTheRing(t *testing.T) {
	draw := rand.New(rand.NewSource(13))
	for size := 64; size <= 1040; size++ {
		for kind := api.FrameNMEA; kind <= api.FrameSiRF; kind++ {
			if size <= longest[kind] {
				f := ofLength(draw, kind, size)
				row := rowOf(f)
				r, _ := made(t, size, row[:size-1])
				wantNext(t, r, api.Frame{}, false, 0, row[:size-1])
				r.Put(row[size-1:])
				wantNext(t, r, f, true, 0, nil)
			}
			if size < longest[kind] {
				row := rowOf(ofLength(draw, kind, size+1))
				wantNoRoom(t, size, kind, row)
			}
		}
	}
}

// wantNoRoom asks that a frame of one byte more than the ring's size is dropped.
func wantNoRoom(t *testing.T, size int, kind uint8, row []byte) {
	t.Helper()
	upTo := [4]int{0, size, 6, 4}[kind]
	r, m := made(t, size, row[:upTo-1])
	wantNext(t, r, api.Frame{}, false, 0, row[:upTo-1])
	r.Put(row[upTo-1 : upTo])
	m.put(row[upTo-1 : upTo])
	wantStands(t, m, wrong)
	wantLike(t, r, m)
	r, m = made(t, size, row[:size])
	wantLike(t, r, m)
	r, m = made(t, size, row[:size])
	r.Put(row[size:])
	m.put(row[size:])
	wantLike(t, r, m)
}

// P8.1: what is short stays in a ring that is not full, and goes in a full one, byte by byte, till something else stands there.
func TestShortInAFullRing(t *testing.T) {
	text := bytes.Repeat([]byte("A"), 70)
	r, _ := made(t, 64, []byte("$"), text[:62])
	wantNone(t, r)
	r.Put([]byte("A"))
	wantNext(t, r, api.Frame{}, false, 64, nil)
	// Once a byte is dropped the ring is not full any more: what is short then stays.
	r, _ = made(t, 64, []byte("$"), text[:58], []byte("*00\r$"))
	wantNext(t, r, api.Frame{}, false, 63, []byte("$"))
	r, _ = made(t, 64, ubxRow(append([]byte{1, 2}, bytes.Repeat([]byte{3}, 56)...))[:63], []byte("\xA0"))
	wantNext(t, r, api.Frame{}, false, 63, []byte("\xA0"))
	// A frame of exactly the ring's size is whole, though the ring is full.
	sentence := nmeaRow(string(text[:58]))
	r, _ = made(t, 64, sentence)
	wantNext(t, r, nmeaFrame(string(text[:58])), true, 0, nil)
	// Short, with another frame within, in a full ring.
	r, _ = made(t, 64, []byte("\xA0\xA2\x00\x38"), nmeaRow("A"), text[:52], []byte("\xB5"))
	wantNext(t, r, nmeaFrame("A"), true, 4, append(bytes.Clone(text[:52]), 0xB5))
	// Full of bytes that each begin a frame.
	r, _ = made(t, 64, bytes.Repeat([]byte("$"), 64))
	wantNext(t, r, api.Frame{}, false, 63, []byte("$"))
}

// P8.1: bodies of the most bytes, and of one more, of each kind, in a ring with room for all.
func TestMostAndOneMore(t *testing.T) {
	text := bytes.Repeat([]byte("A"), 77)
	r, _ := made(t, 4096, nmeaRow(string(text[:76])))
	wantNext(t, r, nmeaFrame(string(text[:76])), true, 0, nil)
	r, _ = made(t, 4096, []byte("$"), text[:76])
	wantNone(t, r)
	r.Put([]byte("A"))
	wantNext(t, r, api.Frame{}, false, 78, nil)
	r, _ = made(t, 4096, nmeaRow(string(text)))
	wantNext(t, r, api.Frame{}, false, 83, nil)
	body := make([]byte, 1100)
	r, _ = made(t, 4096, ubxRow(body[:514]))
	wantNext(t, r, ubxFrame(body[:514]...), true, 0, nil)
	r, _ = made(t, 4096, ubxRow(body[:515]))
	wantNext(t, r, api.Frame{}, false, 521, nil)
	r, _ = made(t, 4096, sirfRow(body[:1023]))
	wantNext(t, r, sirfFrame(body[:1023]...), true, 0, nil)
	r, _ = made(t, 4096, sirfRow(body[:1024]))
	wantNext(t, r, api.Frame{}, false, 1032, nil)
}

// P8.1: sums in small letters, in each place; an NMEA body's sum is below 128, so its first digit is no letter.
func TestSmallLetters(t *testing.T) {
	for x := byte(32); x <= 126; x++ {
		if !textOf(x) {
			continue
		}
		row := nmeaRow(string(x))
		small := bytes.ToLower(row[2:])
		r, _ := made(t, 64, row[:2], small)
		if bytes.Equal(small, row[2:]) {
			wantNext(t, r, nmeaFrame(string(x)), true, 0, nil)
		} else {
			wantNext(t, r, api.Frame{}, false, 7, nil)
		}
	}
}

// P8.1, P8.2: every byte in an NMEA body, at its begin, within, and at its end.
func TestEveryByteInNMEA(t *testing.T) {
	for x := range 256 {
		for _, body := range []string{string([]byte{byte(x)}), string([]byte{byte(x), 'A', 'B'}), string([]byte{'A', byte(x), 'B'}), string([]byte{'A', 'B', byte(x)})} {
			row := nmeaRow(body)
			r, m := made(t, 64, row)
			if textOf(byte(x)) {
				wantBytes(t, nmeaFrame(body), row)
				wantNext(t, r, nmeaFrame(body), true, 0, nil)
			} else {
				wantRefused(t, nmeaFrame(body), api.ErrForm)
				wantLike(t, r, m)
			}
		}
	}
}

// P8.1, P1: drawn streams of frames, of frames with a byte that is another one, of begins of frames, and of any bytes, in drawn pieces, in rings of drawn sizes.
func TestDrawnStreams(t *testing.T) {
	draw := rand.New(rand.NewSource(14))
	for range 400 {
		size := 64 + draw.Intn(100)
		if draw.Intn(3) == 0 {
			size = 64 + draw.Intn(1500)
		}
		r, m := made(t, size)
		for range 60 {
			row := drawnRow(draw)
			for len(row) > 0 {
				n := min(len(row), 1+draw.Intn(1+draw.Intn(300)))
				r.Put(row[:n])
				m.put(row[:n])
				row = row[n:]
				if draw.Intn(4) > 0 {
					wantLike(t, r, m)
				}
			}
		}
	}
}

func drawnRow(draw *rand.Rand) []byte {
	kind := uint8(1 + draw.Intn(3))
	n := min(longest[kind], shortest[kind]+draw.Intn(1+draw.Intn(longest[kind])))
	row := rowOf(ofLength(draw, kind, n))
	switch draw.Intn(5) {
	case 0:
		row[draw.Intn(len(row))] = byte(draw.Intn(256))
	case 1:
		row = row[:draw.Intn(len(row))]
	case 2:
		row = drawn(draw, draw.Intn(40))
	}
	return row
}

// P8.1, P1: rows of bytes that stand in begins, ends and lengths, of which many are near to frames.
func TestDrawnNearFrames(t *testing.T) {
	draw := rand.New(rand.NewSource(15))
	near := []byte{'$', '*', '0', '0', 'A', '4', '1', 13, 10, 181, 98, 160, 162, 176, 179, 0, 0, 0, 1, 2, 3}
	for range 20000 {
		row := make([]byte, draw.Intn(64))
		for i := range row {
			row[i] = near[draw.Intn(len(near))]
		}
		r, m := made(t, 64, row)
		wantLike(t, r, m)
	}
}

// P1: the greatest ring, full of bytes that each begin a long frame.
func TestFullOfBegins(t *testing.T) {
	for _, row := range []string{"$", "$A", "\xB5\x62", "\xA0\xA2", "\xB5\x62\x00\x02", "\xA0\xA2\x03\xFF", "\xA0\xA2\x03\xF0", "\xB5\x62\xFF\x01\x00", "\xB5\x62\x01\x01\x00\x02", "$*00\r", "$*00\r\n"} {
		r, m := made(t, 4096, bytes.Repeat([]byte(row), 4096/len(row)), bytes.Repeat([]byte("x"), 4096%len(row)))
		wantLike(t, r, m)
	}
}
