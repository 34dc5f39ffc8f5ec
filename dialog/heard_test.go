package dialog

import (
	"bytes"
	"math/rand"
	"testing"

	"remontoire/api"
	"remontoire/frame"
	"remontoire/ring"
	"remontoire/sirf"
	"remontoire/ubx"
)

// inTheAir is a dialogue of which that command is in flight, with one behind it, and its model.
func inTheAir(t *testing.T, c api.Command) (*Dialog, *model) {
	t.Helper()
	d, m := made(t, second, 2, c, plain(9))
	wantTick(t, d, m, 0)
	wantCounts(t, d, 0, 0, 2, true)
	return d, m
}

// others are frames of all kinds and lengths, with the bytes of those that are waited for or near them.
func others() []api.Frame {
	var l []api.Frame
	for kind := range uint8(6) {
		for _, body := range [][]byte{
			nil, {}, {5}, {1}, {11}, {12}, {6, 1}, {5, 1}, {5, 0}, {5, 1, 6}, {5, 0, 6}, {5, 1, 6, 1}, {5, 0, 6, 1}, {5, 1, 6, 1, 0}, {5, 1, 0, 6, 1}, {5, 1, 2, 0, 6, 1},
			{5, 1, 1, 6}, {5, 2, 6, 1}, {6, 1, 5, 1}, {11, 166}, {12, 166}, {11, 6}, {11, 1}, {11, 166, 0}, {0, 11, 166}, {166, 11}, {10, 166}, {13, 166}, []byte("ZDA"),
		} {
			l = append(l, api.Frame{Kind: kind, Body: body})
		}
	}
	for _, f := range []api.Frame{{Kind: 255, Body: []byte{5, 1, 6, 1}}, {Kind: 128 + 2, Body: []byte{5, 1, 6, 1}}, {Kind: 128 + 3, Body: []byte{11, 166}}} {
		l = append(l, f)
	}
	return l
}

// P14.1: ACK-ACK of the class and id: done; ACK-NAK of them: failed; of each class and each id.
func TestFrameUBX(t *testing.T) {
	for _, class := range []byte{0, 1, 5, 6, 13, 127, 128, 255} {
		for id := range 256 {
			c := forUBX(class, byte(id))
			d, m := inTheAir(t, c)
			wantFrame(t, d, m, api.Frame{Kind: api.FrameUBX, Body: []byte{5, 1, class, byte(id)}})
			wantCounts(t, d, 1, 0, 1, false)
			d, m = inTheAir(t, c)
			wantFrame(t, d, m, api.Frame{Kind: api.FrameUBX, Body: []byte{5, 0, class, byte(id)}})
			wantCounts(t, d, 0, 1, 1, false)
		}
	}
}

// P14.1: message 11 of the id: done; message 12 of it: failed; of each id, whatever the command's class.
func TestFrameSiRF(t *testing.T) {
	for _, class := range []byte{0, 5, 11, 255} {
		for id := range 256 {
			c := forSiRF(byte(id))
			c.Class = class
			d, m := inTheAir(t, c)
			wantFrame(t, d, m, api.Frame{Kind: api.FrameSiRF, Body: []byte{11, byte(id)}})
			wantCounts(t, d, 1, 0, 1, false)
			d, m = inTheAir(t, c)
			wantFrame(t, d, m, api.Frame{Kind: api.FrameSiRF, Body: []byte{12, byte(id)}})
			wantCounts(t, d, 0, 1, 1, false)
		}
	}
}

// P14.1: acknowledgments of all other classes and ids are nothing.
func TestFrameOfOtherCommands(t *testing.T) {
	d, _ := inTheAir(t, forUBX(6, 1))
	for x := range 1 << 16 {
		class, id := byte(x>>8), byte(x)
		if class != 6 || id != 1 {
			wantHeard(t, d, false, api.FrameUBX, 5, 1, class, id)
			wantHeard(t, d, false, api.FrameUBX, 5, 0, class, id)
		}
	}
	wantCounts(t, d, 0, 0, 2, true)
	wantHeard(t, d, true, api.FrameUBX, 5, 0, 6, 1)
	wantCounts(t, d, 0, 1, 1, false)

	d, _ = inTheAir(t, forSiRF(166))
	for id := range 256 {
		if id != 166 {
			wantHeard(t, d, false, api.FrameSiRF, 11, byte(id))
			wantHeard(t, d, false, api.FrameSiRF, 12, byte(id))
		}
	}
	wantCounts(t, d, 0, 0, 2, true)
	wantHeard(t, d, true, api.FrameSiRF, 12, 166)
	wantCounts(t, d, 0, 1, 1, false)
}

// P14.1: all other messages of the same payload are nothing.
func TestFrameOfOtherMessages(t *testing.T) {
	d, _ := inTheAir(t, forUBX(6, 1))
	for x := range 1 << 16 {
		class, id := byte(x>>8), byte(x)
		if class != 5 || id > 1 {
			wantHeard(t, d, false, api.FrameUBX, class, id, 6, 1)
		}
	}
	wantCounts(t, d, 0, 0, 2, true)
	wantHeard(t, d, true, api.FrameUBX, 5, 1, 6, 1)

	d, _ = inTheAir(t, forSiRF(166))
	for mid := range 256 {
		if mid != 11 && mid != 12 {
			wantHeard(t, d, false, api.FrameSiRF, byte(mid), 166)
		}
	}
	wantCounts(t, d, 0, 0, 2, true)
	wantHeard(t, d, true, api.FrameSiRF, 11, 166)
}

// P14.1: frames of other kinds with the same bytes are nothing.
func TestFrameOfOtherKinds(t *testing.T) {
	for _, c := range []api.Command{forUBX(6, 1), forUBX(11, 166), forSiRF(166), forSiRF(1), forSiRF(5)} {
		d, _ := inTheAir(t, c)
		for kind := range 256 {
			for _, f := range []api.Frame{yesOf(c), noOf(c)} {
				if uint8(kind) != f.Kind {
					wantHeard(t, d, false, uint8(kind), f.Body...)
				}
			}
		}
		wantCounts(t, d, 0, 0, 2, true)
		wantHeard(t, d, true, yesOf(c).Kind, yesOf(c).Body...)
		wantCounts(t, d, 1, 0, 1, false)
	}
}

// P14.1: what the other receiver would say is nothing, also where the bytes are such that it could be.
func TestFrameOfOtherReceivers(t *testing.T) {
	c := forSiRF(166)
	c.Class = 6
	d, _ := inTheAir(t, c)
	wantHeard(t, d, false, api.FrameUBX, 5, 1, 6, 166)
	wantHeard(t, d, false, api.FrameUBX, 5, 0, 6, 166)
	wantHeard(t, d, false, api.FrameUBX, 11, 166)
	wantCounts(t, d, 0, 0, 2, true)
	d, _ = inTheAir(t, forUBX(6, 166))
	wantHeard(t, d, false, api.FrameSiRF, 11, 166)
	wantHeard(t, d, false, api.FrameSiRF, 12, 166)
	wantHeard(t, d, false, api.FrameSiRF, 5, 1, 6, 166)
	wantCounts(t, d, 0, 0, 2, true)
}

// P14.1: payloads of other lengths are nothing, and empty bodies are.
func TestFrameLengths(t *testing.T) {
	for _, c := range []api.Command{forUBX(6, 1), forUBX(0, 0), forSiRF(166), forSiRF(0)} {
		d, m := inTheAir(t, c)
		for _, f := range []api.Frame{yesOf(c), noOf(c)} {
			whole := f.Body
			for n := range 600 {
				if n != len(whole) {
					body := make([]byte, n)
					copy(body, whole)
					wantFrame(t, d, m, api.Frame{Kind: f.Kind, Body: body})
				}
			}
			wantFrame(t, d, m, api.Frame{Kind: f.Kind})
			wantFrame(t, d, m, api.Frame{Kind: f.Kind, Body: whole[1:]})
			// What stands behind the body in the memory is none of its.
			wantFrame(t, d, m, api.Frame{Kind: f.Kind, Body: whole[:len(whole)-1]})
		}
		wantCounts(t, d, 0, 0, 2, true)
		long := append(bytes.Clone(noOf(c).Body), 1, 2, 3)
		wantFrame(t, d, m, api.Frame{Kind: noOf(c).Kind, Body: long[:len(long)-3]})
		wantCounts(t, d, 0, 1, 1, false)
	}
}

// P14.1: many frames near those that are waited for.
func TestFrameOthers(t *testing.T) {
	for _, c := range []api.Command{forUBX(6, 1), forUBX(5, 1), forUBX(1, 6), forSiRF(166), forSiRF(6), forSiRF(11)} {
		for _, f := range others() {
			d, m := inTheAir(t, c)
			wantFrame(t, d, m, f)
			wantFrame(t, d, m, f)
			wantTick(t, d, m, second)
			wantFrame(t, d, m, yesOf(c))
		}
	}
}

// P14.1: while none is in flight all frames are nothing: ahead of the first Tick, behind one that waits for nothing, behind an answer, behind all tries, of an empty list.
func TestFrameWhileNoneFlies(t *testing.T) {
	c := forUBX(6, 1)
	fresh, _ := made(t, second, 1, c, forSiRF(166))
	behindPlain, _ := made(t, second, 1, api.Command{B: []byte{1}, Class: 6, ID: 1}, c)
	wantSent(t, behindPlain, 0, 1)
	behindYes, _ := made(t, second, 1, c, c)
	wantSent(t, behindYes, 0, c.B...)
	wantHeard(t, behindYes, true, api.FrameUBX, 5, 1, 6, 1)
	behindNo, _ := made(t, second, 1, c, c)
	wantSent(t, behindNo, 0, c.B...)
	wantHeard(t, behindNo, true, api.FrameUBX, 5, 0, 6, 1)
	over, _ := made(t, second, 1, c)
	wantSent(t, over, 0, c.B...)
	wantSent(t, over, second)
	empty, _ := made(t, second, 1)
	for i, x := range []struct {
		d                  *Dialog
		done, failed, left int
	}{{fresh, 0, 0, 2}, {behindPlain, 1, 0, 1}, {behindYes, 1, 0, 1}, {behindNo, 0, 1, 1}, {over, 0, 1, 0}, {empty, 0, 0, 0}} {
		for _, f := range others() {
			if x.d.Frame(f) {
				t.Fatalf("dialogue %d: Frame of kind %d, % X: true", i, f.Kind, f.Body)
			}
			wantCounts(t, x.d, x.done, x.failed, x.left, false)
		}
	}
}

// P14.1: one answer is one command's: of those that wait for the same the first one has it.
func TestFrameTwice(t *testing.T) {
	for _, c := range []api.Command{forUBX(6, 1), forSiRF(166)} {
		d, m := made(t, second, 1, c, c, c)
		for i, answer := range []api.Frame{yesOf(c), noOf(c), yesOf(c)} {
			wantTick(t, d, m, int64(i))
			wantHeard(t, d.Copy(), true, answer.Kind, answer.Body...)
			wantFrame(t, d, m, answer)
			wantFrame(t, d, m, yesOf(c))
			wantFrame(t, d, m, noOf(c))
		}
		wantCounts(t, d, 2, 1, 0, false)
		wantSent(t, d, most)
	}
}

// P14.1: the answer of a command that is to be sent, or that is over, is nothing while another one is in flight.
func TestFrameOfAnother(t *testing.T) {
	a, b, c := forUBX(6, 1), forUBX(6, 8), forSiRF(166)
	d, _ := made(t, second, 1, a, b, c)
	hear := func(want bool, x api.Command) {
		t.Helper()
		wantHeard(t, d, want, yesOf(x).Kind, yesOf(x).Body...)
	}
	wantSent(t, d, 0, a.B...)
	hear(false, b)
	hear(false, c)
	hear(true, a)
	wantSent(t, d, 1, b.B...)
	hear(false, a)
	hear(false, c)
	// Its time is over, but no Tick has said so.
	wantSent(t, d, 1+second, c.B...)
	wantCounts(t, d, 1, 1, 1, true)
	hear(false, b)
	hear(false, a)
	wantCounts(t, d, 1, 1, 1, true)
	hear(true, c)
	wantCounts(t, d, 2, 1, 0, false)
}

// P14.1: an answer that comes late, but ahead of the Tick that would tell so, and one behind each time that it was sent.
func TestFrameBehindEachTry(t *testing.T) {
	for _, c := range []api.Command{forUBX(6, 1), forSiRF(166)} {
		for tries := 1; tries <= 8; tries++ {
			for sent := 1; sent <= tries; sent++ {
				for state, f := range []api.Frame{yesOf(c), noOf(c)} {
					d, m := made(t, second, tries, c, plain(9))
					for i := range sent {
						wantTick(t, d, m, int64(i)*second)
					}
					wantFrame(t, d, m, f)
					wantCounts(t, d, 1-state, state, 1, false)
					wantSent(t, d, 1000*second, 9)
				}
			}
		}
	}
}

// P14.1: a frame is not kept: its body may be written over.
func TestFrameKeepsNothing(t *testing.T) {
	d, m := inTheAir(t, forUBX(6, 1))
	body := []byte{5, 1, 6, 2}
	f := api.Frame{Kind: api.FrameUBX, Body: body}
	wantFrame(t, d, m, f)
	body[3] = 1
	wantLike(t, d, m)
	wantFrame(t, d, m, f)
	body[1] = 0
	wantLike(t, d, m)
	wantCounts(t, d, 1, 0, 1, false)
}

// P14.1: the frames that layers 12 and 13 write and layer 8 takes out of a stream.
func TestFrameOutOfARing(t *testing.T) {
	ack, _ := ubx.Encode(api.Ubx{Class: 5, ID: 1, V: []int64{6, 1}})
	nak, _ := ubx.Encode(api.Ubx{Class: 5, ID: 0, V: []int64{6, 1}})
	other, _ := ubx.Encode(api.Ubx{Class: 5, ID: 1, V: []int64{6, 8}})
	yes, _ := sirf.Encode(api.Sirf{MID: 11, V: []int64{166}})
	no, _ := sirf.Encode(api.Sirf{MID: 12, V: []int64{166}})
	for _, x := range []struct {
		c             api.Command
		stream        [][]byte
		done, refused int
	}{
		{forUBX(6, 1), [][]byte{[]byte("$GPZDA*48\r\n"), yes, other, ack}, 1, 0},
		{forUBX(6, 1), [][]byte{no, []byte("noise"), nak, ack}, 0, 1},
		{forSiRF(166), [][]byte{ack, nak, yes, no}, 1, 0},
		{forSiRF(166), [][]byte{no[:5], other, no, yes}, 0, 1},
	} {
		d, m := inTheAir(t, x.c)
		r, _ := ring.New(api.MaxRing)
		for _, b := range x.stream {
			r.Put(b)
		}
		r.Put(make([]byte, 20))
		frames, _ := frame.All(r)
		for _, f := range frames {
			wantFrame(t, d, m, f)
		}
		wantCounts(t, d, x.done, x.refused, 1, false)
	}
}

// P14.1, P1: drawn frames of any kind, of any bytes.
func TestFrameDrawn(t *testing.T) {
	r := rand.New(rand.NewSource(143))
	for range 300 {
		c := []api.Command{forUBX(6, 1), forUBX(5, 0), forSiRF(166), forSiRF(1)}[r.Intn(4)]
		d, m := inTheAir(t, c)
		for range 300 {
			body := make([]byte, r.Intn(8))
			for i := range body {
				body[i] = []byte{5, 1, 0, 6, 11, 12, 166, byte(r.Intn(256))}[r.Intn(8)]
			}
			wantFrame(t, d, m, api.Frame{Kind: uint8(r.Intn(5)), Body: body})
		}
	}
}
