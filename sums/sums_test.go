package sums

import (
	"bytes"
	"hash/crc32"
	"math/rand"
	"testing"
)

// residue is the CRC of any row and its own CRC behind, the lowest byte first.
const residue = 558161692

// told is what the four calls tell of a row.
type told struct {
	xor           byte
	first, second byte
	fifteen       uint16
	crc           uint32
}

func tell(b []byte) told {
	first, second := Fletcher(b)
	return told{Xor(b), first, second, Fifteen(b), CRC(b)}
}

// byDefinition is what should be told: bits are counted, sums made without a bound ahead of one division, and the CRC is the library's.
func byDefinition(b []byte) told {
	var counts [8]int
	var first, second uint64
	for i, x := range b {
		for bit := range counts {
			counts[bit] += int(x>>bit) & 1
		}
		first += uint64(x)
		second += uint64(x) * uint64(len(b)-i)
	}
	xor := byte(0)
	for bit, n := range counts {
		xor |= byte(n%2) << bit
	}
	return told{xor, byte(first % 256), byte(second % 256), uint16(first % 32768), crc32.ChecksumIEEE(b)}
}

func drawn(r *rand.Rand, n int) []byte {
	out := make([]byte, n)
	r.Read(out)
	return out
}

// name is a row, or of a long one its begin.
func name(b []byte) []byte { return b[:min(len(b), 40)] }

// want asks each call twice, as nothing is kept, and that the row stays as it was.
func want(t *testing.T, b []byte, w told) {
	t.Helper()
	given := bytes.Clone(b)
	for range 2 {
		if got := tell(b); got != w {
			t.Fatalf("%d bytes %v: got %+v, want %+v", len(b), name(b), got, w)
		}
	}
	if !bytes.Equal(b, given) {
		t.Fatalf("%d bytes %v: the row has changed", len(b), name(given))
	}
}

func wantDefined(t *testing.T, b []byte) {
	t.Helper()
	want(t, b, byDefinition(b))
}

// P7.1, P7.2: the chapter's examples.
func TestExamples(t *testing.T) {
	want(t, []byte{1, 2, 3}, told{0, 6, 10, 6, 0x55BC801D})
	want(t, []byte("123456789"), told{0x31, 221, 21, 477, 0xCBF43926})
}

// P7.1, P7.2, P1: of no bytes.
func TestNoBytes(t *testing.T) {
	want(t, nil, told{})
	want(t, []byte{}, told{})
	want(t, make([]byte, 0, 100), told{})
	want(t, []byte{1, 2, 3}[3:], told{})
}

// P7.1, P7.2
func TestOneByteKnown(t *testing.T) {
	want(t, []byte{0}, told{0, 0, 0, 0, 0xD202EF8D})
	want(t, []byte{1}, told{1, 1, 1, 1, 0xA505DF1B})
	want(t, []byte{128}, told{128, 128, 128, 128, 0x3FBA6CAD})
	want(t, []byte{255}, told{255, 255, 255, 255, 0xFF000000})
}

// P7.1, P7.2: rows whose sums are known elsewhere too.
func TestKnown(t *testing.T) {
	want(t, []byte("a"), told{97, 97, 97, 97, 0xE8B7BE43})
	want(t, []byte("abc"), told{96, 38, 74, 294, 0x352441C2})
	want(t, []byte("The quick brown fox jumps over the lazy dog"), told{0x4F, 217, 162, 4057, 0x414FA339})
	// A sentence with *47 behind; an acknowledgement with 0F 38 behind; a poll with 00 84 behind.
	want(t, []byte("GPGGA,123519,4807.038,N,01131.000,E,1,08,0.9,545.4,M,46.9,M,,"), told{0x47, 129, 67, 3201, 0xF68BA0A7})
	want(t, []byte{5, 1, 2, 0, 6, 1}, told{1, 0x0F, 0x38, 15, 0x573B463B})
	want(t, []byte{0x84, 0}, told{0x84, 132, 8, 0x0084, 0x1E364FB0})
}

// P7.1, P7.2: rows of one byte again and again, whose sums pass 2^8 and 2^15.
func TestManyKnown(t *testing.T) {
	want(t, bytes.Repeat([]byte{0}, 32), told{0, 0, 0, 0, 0x190A55AD})
	want(t, bytes.Repeat([]byte{255}, 32), told{0, 224, 240, 8160, 0xFF6CAB0B})
	want(t, bytes.Repeat([]byte{0}, 1000), told{0, 0, 0, 0, 0x060B1780})
	want(t, bytes.Repeat([]byte{255}, 1000), told{0, 24, 236, 25624, 0xE0533230})
}

// P7.1: where the sum comes to 2^15, 2^16 and 2^17, one less, and one more.
func TestFifteenAtTheEdges(t *testing.T) {
	for _, x := range []struct {
		sum  int
		want uint16
	}{
		{255, 255}, {256, 256}, {257, 257}, {32767, 32767}, {32768, 0}, {32769, 1}, {65535, 32767}, {65536, 0}, {65537, 1},
		{98303, 32767}, {98304, 0}, {98305, 1}, {131071, 32767}, {131072, 0}, {131073, 1}, {1 << 20, 0}, {1<<20 + 12345, 12345},
	} {
		b := append(bytes.Repeat([]byte{255}, x.sum/255), byte(x.sum%255))
		if got := Fifteen(b); got != x.want {
			t.Errorf("the sum %d: got %d, want %d", x.sum, got, x.want)
		}
	}
}

// P7.1: the order counts for Fletcher, and for CRC, but for no plain sum.
func TestOrderCounts(t *testing.T) {
	want(t, []byte{1, 2}, told{3, 3, 4, 3, 0xB6CC4292})
	want(t, []byte{2, 1}, told{3, 3, 5, 3, 0x04E840EB})
}

// P7.1, P7.2: all rows of one byte and of two.
func TestAllShortRows(t *testing.T) {
	for x := range 256 {
		wantDefined(t, []byte{byte(x)})
		for y := range 256 {
			wantDefined(t, []byte{byte(x), byte(y)})
		}
	}
}

// P7.1, P7.2: rows of one byte again and again, of all lengths, whose sums pass 2^8 and 2^15 many times.
func TestManyOfOneByte(t *testing.T) {
	for _, x := range []byte{0, 1, 127, 128, 254, 255} {
		row := bytes.Repeat([]byte{x}, 1500)
		for n := range row {
			wantDefined(t, row[:n])
		}
	}
}

// P7.1, P7.2: drawn rows of all lengths.
func TestDrawnRows(t *testing.T) {
	r := rand.New(rand.NewSource(1))
	for n := range 1200 {
		wantDefined(t, drawn(r, n))
	}
}

// P7.1, P7.2, P1: rows whose sums pass 2^16 and 2^24 many times, at last also 2^32.
func TestLongRows(t *testing.T) {
	r := rand.New(rand.NewSource(2))
	for _, n := range []int{4095, 4096, 4097, 65535, 65536, 65537, 1_000_003, 1 << 20} {
		wantDefined(t, drawn(r, n))
		wantDefined(t, bytes.Repeat([]byte{0}, n))
		wantDefined(t, bytes.Repeat([]byte{255}, n))
	}
	wantDefined(t, bytes.Repeat([]byte{255}, 17_000_000))
}

// wantAnother asks that a row whose byte at that place is another one has another Xor, Fletcher and CRC.
func wantAnother(t *testing.T, b []byte, place int, turned byte) {
	t.Helper()
	one := tell(b)
	b[place] ^= turned
	other := tell(b)
	b[place] ^= turned
	if one.xor == other.xor || one.first == other.first && one.second == other.second || one.crc == other.crc {
		t.Fatalf("%d bytes %v, byte %d xor %d: %+v and %+v", len(b), name(b), place, turned, one, other)
	}
}

// 'What follows', P7.1, P7.2: all other bytes at all places of short rows.
func TestAnotherByteOfShortRows(t *testing.T) {
	r := rand.New(rand.NewSource(3))
	for n := 1; n <= 40; n++ {
		for _, b := range [][]byte{drawn(r, n), bytes.Repeat([]byte{0}, n), bytes.Repeat([]byte{255}, n)} {
			for place := range b {
				for turned := 1; turned < 256; turned++ {
					wantAnother(t, b, place, byte(turned))
				}
			}
		}
	}
}

// 'What follows', P7.1, P7.2: at all places of longer rows, also where bytes ahead or behind pass 2^8 in number.
func TestAnotherByteOfLongRows(t *testing.T) {
	r := rand.New(rand.NewSource(4))
	for _, n := range []int{255, 256, 257, 511, 512, 513, 1023} {
		b := drawn(r, n)
		for place := range b {
			wantAnother(t, b, place, 1)
			wantAnother(t, b, place, 128)
			wantAnother(t, b, place, byte(1+r.Intn(255)))
		}
	}
	b := drawn(r, 100_000)
	for _, place := range []int{0, 1, 255, 256, 32767, 32768, 50_000, 65535, 65536, 99_743, 99_744, 99_998, 99_999} {
		wantAnother(t, b, place, 128)
		wantAnother(t, b, place, byte(1+r.Intn(255)))
	}
}

// withCRC is a row and its own CRC behind, the lowest byte first.
func withCRC(b []byte) []byte {
	crc := CRC(b)
	return append(bytes.Clone(b), byte(crc), byte(crc>>8), byte(crc>>16), byte(crc>>24))
}

func wantResidue(t *testing.T, b []byte) {
	t.Helper()
	if got := CRC(withCRC(b)); got != residue {
		t.Fatalf("%d bytes %v and their CRC: got %d, want %d", len(b), name(b), got, uint32(residue))
	}
}

// 'What follows', P7.2
func TestCRCBehind(t *testing.T) {
	wantResidue(t, nil)
	wantResidue(t, []byte{})
	if got := CRC([]byte{0, 0, 0, 0}); got != residue {
		t.Errorf("no bytes and their CRC: got %d", got)
	}
	r := rand.New(rand.NewSource(5))
	for x := range 256 {
		wantResidue(t, []byte{byte(x)})
	}
	for n := range 1100 {
		wantResidue(t, drawn(r, n))
		wantResidue(t, bytes.Repeat([]byte{0}, n))
		wantResidue(t, bytes.Repeat([]byte{255}, n))
	}
	wantResidue(t, drawn(r, 300_000))
}

// P7.1, P7.2: what stands ahead of a row or behind it, in the same memory, is neither asked nor changed.
func TestRowWithinARow(t *testing.T) {
	r := rand.New(rand.NewSource(6))
	room := drawn(r, 300)
	given := bytes.Clone(room)
	for range 500 {
		from := r.Intn(301)
		to := from + r.Intn(301-from)
		want(t, room[from:to], byDefinition(bytes.Clone(given[from:to])))
	}
	if !bytes.Equal(room, given) {
		t.Error("the row about it has changed")
	}
}
