package nmeaout

import (
	"math/rand"
	"strings"
	"testing"

	"remontoire/api"
	"remontoire/frame"
)

// mayBe is whether a byte may stand in a body.
func mayBe(x byte) bool { return x >= 32 && x <= 126 && x != '$' && x != '*' }

// drawnBody is a body of so many bytes that may be.
func drawnBody(draw *rand.Rand, n int) string {
	body := make([]byte, n)
	for i := range body {
		for !mayBe(body[i]) {
			body[i] = byte(draw.Intn(256))
		}
	}
	return string(body)
}

// P11.1: known answers, their sums worked out by hand.
func TestSentenceKnown(t *testing.T) {
	for body, want := range map[string]string{
		"A":                           "$A*41\r\n",
		"AA":                          "$AA*00\r\n",
		" ":                           "$ *20\r\n",
		"~":                           "$~*7E\r\n",
		"J@":                          "$J@*0A\r\n",
		",":                           "$,*2C\r\n",
		"GPZDA,,,,,00,00":             "$GPZDA,,,,,00,00*48\r\n",
		"PUBX,40,GLL,0,0,0,0":         "$PUBX,40,GLL,0,0,0,0*5C\r\n",
		"PSRF103,00,01,00,01":         "$PSRF103,00,01,00,01*25\r\n",
		"PUBX,00":                     "$PUBX,00*33\r\n",
		"PSRF100,0,9600,8,1,0":        "$PSRF100,0,9600,8,1,0*0C\r\n",
		"GPRMC,,V,,,,,,,,,,N":         "$GPRMC,,V,,,,,,,,,,N*53\r\n",
		"GPGLL,,,,,,V":                "$GPGLL,,,,,,V*06\r\n",
		strings.Repeat("Z", 76):       "$" + strings.Repeat("Z", 76) + "*00\r\n",
		strings.Repeat("Z", 75):       "$" + strings.Repeat("Z", 75) + "*5A\r\n",
		strings.Repeat("Z", 75) + " ": "$" + strings.Repeat("Z", 75) + " *7A\r\n",
	} {
		got, e := Sentence(body)
		if e != api.OK || string(got) != want {
			t.Errorf("Sentence of %q: %q, %d, want %q", body, got, e, want)
		}
		wantSentence(t, body)
	}
}

// P11.1: an empty body may not be written, although layer 8 takes one.
func TestSentenceEmpty(t *testing.T) {
	wantNoSentence(t, "", api.ErrShort)
	full := "GPZDA"
	wantNoSentence(t, full[:0], api.ErrShort)
	wantNoSentence(t, full[5:], api.ErrShort)
	if row, e := frame.Bytes(api.Frame{Kind: api.FrameNMEA}); e != api.OK || len(row) != 6 {
		t.Errorf("layer 8 has %q, %d of an empty body", row, e)
	}
}

// P11.1: each body of one byte, and each one of two.
func TestSentenceShortBodies(t *testing.T) {
	for x := range 256 {
		one := string([]byte{byte(x)})
		if !mayBe(byte(x)) {
			wantNoSentence(t, one, api.ErrForm)
		} else {
			wantSentence(t, one)
		}
		for y := range 256 {
			two := string([]byte{byte(x), byte(y)})
			if !mayBe(byte(x)) || !mayBe(byte(y)) {
				wantNoSentence(t, two, api.ErrForm)
				continue
			}
			name, call := sentenceCall(two)
			wantRow(t, name, call, two)
		}
	}
}

// P11.1: bodies of all lengths up to the longest one, each byte in each place of them.
func TestSentenceOfAllLengths(t *testing.T) {
	draw := rand.New(rand.NewSource(1101))
	for n := 1; n <= 76; n++ {
		for range 20 {
			wantSentence(t, drawnBody(draw, n))
		}
	}
	for _, n := range []int{1, 2, 3, 15, 38, 75, 76} {
		body := []byte(drawnBody(draw, n))
		for place := range body {
			kept := body[place]
			for x := range 256 {
				body[place] = byte(x)
				if !mayBe(byte(x)) {
					wantNoSentence(t, string(body), api.ErrForm)
					continue
				}
				name, call := sentenceCall(string(body))
				wantRow(t, name, call, string(body))
			}
			body[place] = kept
		}
	}
}

// P11.1: bodies of one byte more than may be, and of many more; that they are too long is told ahead of bytes that may not be.
func TestSentenceTooLong(t *testing.T) {
	wantSentence(t, strings.Repeat("A", 76))
	for _, n := range []int{77, 78, 79, 80, 81, 82, 83, 100, 152, 255, 256, 257, 332, 512, 1023, 4096, 65535, 65536, 65537, 65612, 1 << 20} {
		for _, text := range []string{"A", " ", "~", "$", "*", "\x00", "\n", "\r", "\x1f", "\x7f", "\x80", "\xff"} {
			wantNoSentence(t, strings.Repeat(text, n), api.ErrLong)
		}
		for _, place := range []int{0, 1, 75, 76, n - 1} {
			body := []byte(strings.Repeat("A", n))
			body[place] = '$'
			wantNoSentence(t, string(body), api.ErrLong)
		}
	}
	for _, text := range []string{"$", "*", "\x00", "\n", "\xff"} {
		wantNoSentence(t, strings.Repeat(text, 76), api.ErrForm)
	}
	// A body's bytes are counted, not its letters.
	wantNoSentence(t, strings.Repeat("é", 39), api.ErrLong)
	wantNoSentence(t, strings.Repeat("é", 38), api.ErrForm)
}

// P11.1: a whole sentence, or a part of its frame, is no body.
func TestSentenceOfWholeRows(t *testing.T) {
	for _, body := range []string{
		"$A*41\r\n", "$A*41", "A*41", "$A", "A\r\n", "A\r", "A\n", "A*", "*", "$", "\r\n", "GPZDA,,,,,00,00*48", "$GPZDA,,,,,00,00", "GPZDA\t", "é", "GPZDA,\x00", "\x00",
	} {
		wantNoSentence(t, body, api.ErrForm)
	}
}

// P11.1: what is told is what layer 8 tells, of any body but the empty one.
func TestSentenceAsLayerEight(t *testing.T) {
	draw := rand.New(rand.NewSource(1102))
	for range 20000 {
		body := make([]byte, 1+draw.Intn(90))
		for i := range body {
			body[i] = byte(30 + draw.Intn(98))
			if draw.Intn(4) > 0 || body[i] == '*' || body[i] == '$' {
				body[i] = 'A'
			}
		}
		if draw.Intn(3) == 0 {
			body[draw.Intn(len(body))] = byte(draw.Intn(256))
		}
		want, wantE := frame.Bytes(api.Frame{Kind: api.FrameNMEA, Body: body})
		if got, e := Sentence(string(body)); e != wantE || string(got) != string(want) {
			t.Fatalf("Sentence of %q: %q, %d, want %q, %d", body, got, e, want, wantE)
		}
	}
}

// P11.1: sentences side by side in one ring are taken out in their order.
func TestSentencesSideBySide(t *testing.T) {
	draw := rand.New(rand.NewSource(1103))
	for range 200 {
		var row []byte
		var bodies []string
		for range 1 + draw.Intn(8) {
			body := drawnBody(draw, 1+draw.Intn(76))
			told, e := Sentence(body)
			if e != api.OK {
				t.Fatalf("Sentence of %q: %d", body, e)
			}
			row = append(row, told...)
			bodies = append(bodies, body)
		}
		wantTaken(t, row, bodies...)
	}
}
