package ubx

import (
	"bytes"
	"math/rand"
	"slices"
	"testing"

	"remontoire/api"
	"remontoire/frame"
	"remontoire/ring"
)

// taken is all frames that are taken out of a ring with these bytes, how many bytes were dropped, and how many are left.
func taken(t *testing.T, all []byte) ([]api.Frame, int, int) {
	t.Helper()
	r, e := ring.New(api.MaxRing)
	if e != api.OK || r.Put(all) != 0 {
		t.Fatal(e, len(all))
	}
	frames, dropped := frame.All(r)
	return frames, dropped, r.Len()
}

// P12.2: a frame is the payload and eight bytes about it, as the chapter says, and is taken out of a ring as one frame, whose bytes layer 8 writes alike.
func TestEncodeIsAFrame(t *testing.T) {
	random := rand.New(rand.NewSource(126))
	for _, r := range rows {
		for range 200 {
			u := drawnMessage(random, r)
			payload, _ := Payload(u)
			all, e := Encode(u)
			if e != api.OK || len(all) != r.length+8 || !bytes.Equal(all[:6], []byte{0xB5, 0x62, r.class, r.id, byte(r.length), 0}) || !bytes.Equal(all[6:6+r.length], payload) {
				t.Fatalf("%v: % X, %d", u, all, e)
			}
			if !bytes.Equal(all, frameOf(r.class, r.id, payload)) {
				t.Fatalf("%v: % X: the last two bytes are not the sums", u, all)
			}
			body := append([]byte{r.class, r.id}, payload...)
			frames, dropped, left := taken(t, all)
			if len(frames) != 1 || dropped != 0 || left != 0 || frames[0].Kind != api.FrameUBX || !bytes.Equal(frames[0].Body, body) {
				t.Fatalf("%v: % X is taken as %v, %d dropped, %d left", u, all, frames, dropped, left)
			}
			if again, e := frame.Bytes(frames[0]); e != api.OK || !bytes.Equal(again, all) {
				t.Fatalf("%v: % X, %d, want % X", u, again, e, all)
			}
		}
	}
}

// What follows: frames of all kinds side by side are taken out in their order and read as what was written.
func TestEncodedStreamIsRead(t *testing.T) {
	random := rand.New(rand.NewSource(127))
	for range 100 {
		var all []byte
		var written []api.Ubx
		for _, k := range random.Perm(len(rows)) {
			u := drawnMessage(random, rows[k])
			row, e := Encode(u)
			if e != api.OK {
				t.Fatal(u, e)
			}
			all = append(all, row...)
			written = append(written, u)
		}
		frames, dropped, left := taken(t, all)
		if len(frames) != len(written) || dropped != 0 || left != 0 {
			t.Fatalf("%d frames, %d dropped, %d left", len(frames), dropped, left)
		}
		for i, f := range frames {
			u, e := Decode(f.Body[0], f.Body[1], f.Body[2:])
			if e != api.OK || !sameMessage(u, written[i]) {
				t.Fatalf("%v is read as %v, %d", written[i], u, e)
			}
		}
	}
}

// What follows: what is written is read again, at each field's edges, too.
func TestWrittenIsReadAgain(t *testing.T) {
	random := rand.New(rand.NewSource(128))
	for _, r := range rows {
		for i, f := range r.entries {
			for _, value := range []int64{f.least(), f.least() + 1, 0, 1, f.most() - 1, f.most()} {
				u := withValue(drawnMessage(random, r), i, value)
				payload, e := Payload(u)
				if e != api.OK {
					t.Fatal(u, e)
				}
				if back, e := Decode(r.class, r.id, payload); e != api.OK || !sameMessage(back, u) {
					t.Fatalf("%v is read as %v, %d", u, back, e)
				}
			}
		}
	}
}

// What follows: of a payload that is read the fields alone are written again.
func TestReadIsWrittenAgain(t *testing.T) {
	random := rand.New(rand.NewSource(129))
	for _, r := range rows {
		for n := range 300 {
			payload := drawnPayload(random, r.length)
			if n < 2 {
				payload = bytes.Repeat([]byte{byte(255 * n)}, r.length)
			}
			want := slices.Clone(payload)
			for at, isField := range r.places() {
				if !isField {
					want[at] = 0
				}
			}
			u, e := Decode(r.class, r.id, payload)
			if e != api.OK {
				t.Fatal(r.name, e)
			}
			if got, e := Payload(u); e != api.OK || !bytes.Equal(got, want) {
				t.Fatalf("%s: %x is written as %x, %d, want %x", r.name, payload, got, e, want)
			}
		}
	}
}
