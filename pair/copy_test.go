package pair

import (
	"math/rand"
	"reflect"
	"testing"
)

// P17.2: a copy in each state is just like what it was copied of; whatever comes to one of them does not come to the other one.
func TestCopyInEachState(t *testing.T) {
	for _, state := range states() {
		for kind := isEdge; kind <= isNext; kind++ {
			for _, then := range []int{isEdge, isMessage, isNext} {
				b := in(t, state)
				latest := b.m.latest()
				ahead := inside(b.p)
				c := b.copy(t)
				if !reflect.DeepEqual(inside(c.p), ahead) {
					t.Fatalf("Copy of %v is %v", ahead, inside(c.p))
				}
				c.comes(t, kind, latest)
				c.comes(t, then, latest)
				if !reflect.DeepEqual(inside(b.p), ahead) {
					t.Fatalf("behind what came to a copy %v is %v", ahead, inside(b.p))
				}
				d := b.copy(t)
				b.comes(t, kind, latest)
				b.comes(t, then, latest)
				if !reflect.DeepEqual(inside(d.p), ahead) {
					t.Fatalf("behind what came to what it is a copy of %v is %v", ahead, inside(d.p))
				}
				d.comes(t, kind, latest)
				d.comes(t, then, latest)
				if !reflect.DeepEqual(inside(d.p), inside(b.p)) || !reflect.DeepEqual(inside(d.p), inside(c.p)) {
					t.Fatalf("the same came to %v, %v and %v", inside(b.p), inside(c.p), inside(d.p))
				}
			}
		}
	}
}

// P17.2: a message that waits does so in both, and is paired in both, in any order; one that takes its place does so in one alone.
func TestCopyWhileOneWaits(t *testing.T) {
	b := made(t, wide)
	b.message(t, 10, true)
	c := b.copy(t)
	d := c.copy(t)
	e := d.copy(t)
	if !c.p.Waits() || !d.p.Waits() || !e.p.Waits() {
		t.Fatal("no copy waits")
	}
	if x, ok := c.edge(t, 20); !ok || x.Edge != 20 || c.p.Waits() || !b.p.Waits() || !d.p.Waits() {
		t.Fatal(x, ok)
	}
	e.message(t, 30, true)
	if x, ok := b.edge(t, 11+wide); ok || b.p.Waits() || !d.p.Waits() || !e.p.Waits() {
		t.Fatal(x, ok)
	}
	if x, ok := d.edge(t, 10+wide); !ok || x.Edge != 10+wide || x.Msg.Sec != 1000 || !e.p.Waits() {
		t.Fatal(x, ok)
	}
	if x, ok := e.edge(t, 30+wide); !ok || x.Edge != 30+wide || x.Msg.Sec != 1001 {
		t.Fatal(x, ok)
	}
}

// P17.2: an edge that is taken in one of them is free in the other one.
func TestCopyOfFreeEdge(t *testing.T) {
	b := made(t, wide)
	b.edge(t, 10)
	c := b.copy(t)
	for _, x := range []both{c, b, b.copy(t)} {
		y := x.copy(t)
		if p, ok := x.message(t, 12, false); !ok {
			t.Fatal(p)
		}
		if p, ok := x.message(t, 12, false); ok {
			t.Fatal(p)
		}
		if p, ok := x.copy(t).message(t, 12, false); ok {
			t.Fatal(p)
		}
		if p, ok := y.message(t, 11, false); !ok {
			t.Fatal(p)
		}
		b = made(t, wide)
		b.edge(t, 10)
	}
}

// P17.2: the window, and the latest counter, are those of what was copied.
func TestCopyHasAll(t *testing.T) {
	for _, w := range windows {
		b := made(t, w)
		b.message(t, 50, false)
		c := b.copy(t).copy(t)
		c.edge(t, 49)
		c.edge(t, 50)
		if x, ok := c.copy(t).message(t, 50+w, false); !ok {
			t.Fatal(x)
		}
		if x, ok := c.copy(t).message(t, 51+w, false); ok {
			t.Fatal(x)
		}
	}
}

// P17.2: copies at each step of drawn runs, and copies of copies; things come to one of them, the other one, both in turns.
func TestCopyInDrawnRuns(t *testing.T) {
	r := rand.New(rand.NewSource(174))
	for i := range 200 {
		b := made(t, windows[i%len(windows)])
		for range 30 {
			c := b.copy(t)
			for range r.Intn(5) {
				c.comes(t, r.Intn(3), drawnCounter(r, c.m))
				b.wantLike(t)
			}
			for range 1 + r.Intn(4) {
				b.comes(t, r.Intn(3), drawnCounter(r, b.m))
				c.wantLike(t)
			}
			for range r.Intn(4) {
				b.comes(t, r.Intn(3), drawnCounter(r, b.m))
				c.comes(t, r.Intn(3), drawnCounter(r, c.m))
			}
			b.wantLike(t)
			if r.Intn(2) == 0 {
				b = c
			}
		}
	}
}
