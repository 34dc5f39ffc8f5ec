package sirf

import (
	"bytes"
	"math/rand"
	"slices"
	"testing"

	"remontoire/api"
	"remontoire/frame"
	"remontoire/ring"
	"remontoire/sums"
)

// taken is all frames that are taken out of a ring with these bytes, how many bytes were dropped, and how many are left.
func taken(t *testing.T, all []byte) ([]api.Frame, int, int) {
	t.Helper()
	r, e := ring.New(api.MaxRing)
	if e != api.OK || r.Put(all) != 0 {
		t.Fatal(e, len(all))
	}
	frames, dropped := frame.All(r)
	return frames, dropped, r.Len()
}

// P13.2: a frame is the payload and eight bytes about it, as the chapter says, and is taken out of a ring as one frame, whose bytes layer 8 writes alike.
func TestEncodeIsAFrame(t *testing.T) {
	random := rand.New(rand.NewSource(138))
	for _, r := range rows {
		for range 200 {
			s := drawnMessage(random, r)
			payload, _ := Payload(s)
			all, e := Encode(s)
			n := r.length + 4
			if e != api.OK || len(all) != n+4 || !bytes.Equal(all[:4], []byte{0xA0, 0xA2, 0, byte(r.length)}) || !bytes.Equal(all[4:n], payload) {
				t.Fatalf("%v: % X, %d", s, all, e)
			}
			sum := sums.Fifteen(payload)
			if !bytes.Equal(all[n:], []byte{byte(sum / 256), byte(sum % 256), 0xB0, 0xB3}) || !bytes.Equal(all, frameOf(payload)) {
				t.Fatalf("%v: % X: the last four bytes are not the sum and the end", s, all)
			}
			frames, dropped, left := taken(t, all)
			if len(frames) != 1 || dropped != 0 || left != 0 || frames[0].Kind != api.FrameSiRF || !bytes.Equal(frames[0].Body, payload) {
				t.Fatalf("%v: % X is taken as %v, %d dropped, %d left", s, all, frames, dropped, left)
			}
			if again, e := frame.Bytes(frames[0]); e != api.OK || !bytes.Equal(again, all) {
				t.Fatalf("%v: % X, %d, want % X", s, again, e, all)
			}
		}
	}
}

// What follows: frames of all kinds side by side are taken out in their order and read as what was written.
func TestEncodedStreamIsRead(t *testing.T) {
	random := rand.New(rand.NewSource(139))
	for range 100 {
		var all []byte
		var written []api.Sirf
		for _, k := range random.Perm(len(rows)) {
			s := drawnMessage(random, rows[k])
			b, e := Encode(s)
			if e != api.OK {
				t.Fatal(s, e)
			}
			all = append(all, b...)
			written = append(written, s)
		}
		frames, dropped, left := taken(t, all)
		if len(frames) != len(written) || dropped != 0 || left != 0 {
			t.Fatalf("%d frames, %d dropped, %d left", len(frames), dropped, left)
		}
		for i, f := range frames {
			if s, e := Decode(f.Body); e != api.OK || !sameMessage(s, written[i]) {
				t.Fatalf("%v is read as %v, %d", written[i], s, e)
			}
		}
	}
}

// What follows: what is written is read again, at each field's edges, too.
func TestWrittenIsReadAgain(t *testing.T) {
	random := rand.New(rand.NewSource(140))
	for _, r := range rows {
		for i, f := range r.entries {
			for _, value := range []int64{f.least(), f.least() + 1, 0, 1, 1023, 1024, f.most() - 1, f.most()} {
				s := withValue(drawnMessage(random, r), i, min(value, f.most()))
				payload, e := Payload(s)
				if e != api.OK {
					t.Fatal(s, e)
				}
				if back, e := Decode(payload); e != api.OK || !sameMessage(back, s) {
					t.Fatalf("%v is read as %v, %d", s, back, e)
				}
			}
		}
	}
}

// What follows: of a payload that is read the fields alone are written again.
func TestReadIsWrittenAgain(t *testing.T) {
	random := rand.New(rand.NewSource(141))
	for _, r := range rows {
		payloads := [][]byte{r.payloadWith(0), r.payloadWith(255)}
		for range 200 {
			payloads = append(payloads, r.drawnPayload(random))
		}
		for _, payload := range payloads {
			want := slices.Clone(payload)
			for at, isField := range r.places() {
				if at > 0 && !isField {
					want[at] = 0
				}
			}
			s, e := Decode(payload)
			if e != api.OK {
				t.Fatal(r.name, e)
			}
			if got, e := Payload(s); e != api.OK || !bytes.Equal(got, want) {
				t.Fatalf("%s: %x is written as %x, %d, want %x", r.name, payload, got, e, want)
			}
		}
	}
}
