package dialog

import (
	"math/rand"
	"testing"

	"remontoire/api"
)

// P14.2: a copy at each step of a drawn run is just like it; both go their own ways from there.
func TestCopyGoesItsOwnWay(t *testing.T) {
	r := rand.New(rand.NewSource(144))
	for range 300 {
		l := drawnList(r, r.Intn(17))
		timeout, tries := api.MinTimeout+r.Int63n(second), 1+r.Intn(4)
		d, m := made(t, timeout, tries, l...)
		at := r.Int63n(1 << 40)
		for range 30 {
			c, cm, cat := d.Copy(), m.copy(), at
			if c == nil || c == d {
				t.Fatalf("Copy: %p of %p", c, d)
			}
			wantLike(t, c, cm)
			// The copy alone, it alone, both in turns.
			for range r.Intn(4) {
				drawnStep(t, r, c, cm, &cat)
				wantLike(t, d, m)
			}
			for range 1 + r.Intn(4) {
				drawnStep(t, r, d, m, &at)
				wantLike(t, c, cm)
			}
			for range r.Intn(4) {
				drawnStep(t, r, d, m, &at)
				drawnStep(t, r, c, cm, &cat)
			}
			wantLike(t, d, m)
			wantLike(t, c, cm)
			if r.Intn(2) == 0 {
				d, m, at = c, cm, cat
			}
		}
	}
}

// P14.2: what is in flight is each one's own: an answer, a time that is over and a further try are no other's.
func TestCopyInFlight(t *testing.T) {
	a := forUBX(6, 1)
	d, _ := made(t, second, 2, a, plain(9))
	wantSent(t, d, 0, a.B...)
	c := d.Copy()
	wantCounts(t, c, 0, 0, 2, true)
	wantHeard(t, c, true, api.FrameUBX, 5, 1, 6, 1)
	wantCounts(t, c, 1, 0, 1, false)
	wantCounts(t, d, 0, 0, 2, true)

	e := d.Copy()
	wantSent(t, e, second, a.B...)
	wantSent(t, e, 2*second, 9)
	wantCounts(t, e, 1, 1, 0, false)
	wantSent(t, d, second-1)
	wantSent(t, d, second, a.B...)
	wantSent(t, d, 2*second-1)
	wantCounts(t, d, 0, 0, 2, true)

	f := d.Copy()
	wantHeard(t, d, true, api.FrameUBX, 5, 0, 6, 1)
	wantCounts(t, d, 0, 1, 1, false)
	wantCounts(t, f, 0, 0, 2, true)
	wantSent(t, f, 2*second, 9)
	wantCounts(t, f, 1, 1, 0, false)
	wantSent(t, c, 5, 9)
}

// P14.2: the greatest counter that came, the timeout and the tries are those of what was copied.
func TestCopyHasAll(t *testing.T) {
	a := forSiRF(166)
	d, _ := made(t, 3*second, 3, plain(9), a)
	wantSent(t, d, 100*second, 9)
	c := d.Copy()
	wantSent(t, c, 0, a.B...)
	wantSent(t, c, 103*second-1)
	wantSent(t, c, 103*second, a.B...)
	c = c.Copy()
	wantSent(t, c, 106*second, a.B...)
	wantSent(t, c.Copy(), 109*second)
	wantCounts(t, c, 1, 0, 1, true)
	wantSent(t, d, 50*second, a.B...)
	wantSent(t, d, 103*second-1)
}

// P14.2: one that was made of nothing is copied, too, and so is one that is over.
func TestCopyOfNothing(t *testing.T) {
	for _, l := range [][]api.Command{nil, {}, {plain(1)}} {
		d, _ := made(t, second, 1, l...)
		d.Tick(0)
		c := d.Copy()
		if c == nil || c == d {
			t.Fatalf("Copy of a list of %d: %p of %p", len(l), c, d)
		}
		wantCounts(t, c, len(l), 0, 0, false)
		wantSent(t, c, most)
	}
}

// P14.2: bytes that one of them told may be written over: the other one sends what was handed in.
func TestCopyOwnMemory(t *testing.T) {
	a := forUBX(6, 1)
	d, _ := made(t, second, 8, a)
	c := d.Copy()
	for i := range int64(8) {
		for _, x := range []*Dialog{d, c, d.Copy()} {
			if b, ok := x.Tick(i * second); ok {
				clear(b[:cap(b)])
			}
		}
	}
	last, _ := made(t, second, 8, a)
	e := last.Copy()
	wantSent(t, e, 0, a.B...)
	b, _ := last.Tick(0)
	clear(b)
	wantSent(t, e, second, a.B...)
	wantSent(t, last, second, a.B...)
}

// P14.2, P1: one that is not there, and one that was not made, at every call.
func TestNotThere(t *testing.T) {
	for i, d := range []*Dialog{nil, {}, new(Dialog)} {
		for range 2 {
			for _, now := range append([]int64{api.MinTimeout, api.MaxTimeout}, far...) {
				if b, ok := d.Tick(now); len(b) > 0 || ok {
					t.Fatalf("%d: Tick at %d: % X, %t", i, now, b, ok)
				}
			}
			for _, f := range append(others(), api.Frame{Kind: api.FrameUBX, Body: make([]byte, 4)}, api.Frame{Kind: api.FrameUBX, Body: []byte{5, 1, 0, 0}}, api.Frame{Kind: api.FrameSiRF, Body: []byte{11, 0}}) {
				if d.Frame(f) {
					t.Fatalf("%d: Frame of kind %d, % X: true", i, f.Kind, f.Body)
				}
			}
			wantCounts(t, d, 0, 0, 0, false)
			if c := d.Copy(); c != nil {
				t.Fatalf("%d: Copy: %v", i, c)
			}
		}
	}
}
