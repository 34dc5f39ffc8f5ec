package pair

import (
	"testing"

	"remontoire/api"
)

// P17.1: a message that is Next is paired with the first edge behind it, if that is from 0 to the window behind.
func TestNextAheadOfEdge(t *testing.T) {
	for _, w := range windows {
		for _, at := range starts() {
			for _, behind := range []int64{0, 1, 2, w / 2, w - 2, w - 1, w} {
				wantSteps(t, w, step{isNext, at, 0}, step{isEdge, at + behind, 1}, step{isEdge, at + behind, 0}, step{isEdge, at + w, 0})
			}
			for _, behind := range []int64{w + 1, w + 2, 2 * w, 3 * w} {
				wantSteps(t, w, step{isNext, at, 0}, step{isEdge, at + behind, 0}, step{isEdge, at + behind, 0})
			}
		}
		wantSteps(t, w, step{isNext, 0, 0}, step{isEdge, most, 0}, step{isMessage, most, 2})
		wantSteps(t, w, step{isNext, most - w, 0}, step{isEdge, most, 1})
		wantSteps(t, w, step{isNext, most - w - 1, 0}, step{isEdge, most, 0})
		wantSteps(t, w, step{isNext, most, 0}, step{isEdge, most, 1})
	}
}

// P17.2: a message that is Next waits till an edge comes, whether or not they make a pair; no other one waits.
func TestWaits(t *testing.T) {
	for _, w := range windows {
		for _, behind := range []int64{0, 1, w, w + 1, 2 * w} {
			p, _ := New(w)
			for _, s := range []struct {
				kind  int
				at    int64
				waits bool
			}{
				{isMessage, 3, false}, {isEdge, 4, false}, {isMessage, 5, false},
				{isNext, 6, true}, {isMessage, 6, true}, {isNext, 6, true},
				{isEdge, 6 + behind, false}, {isMessage, 6 + behind, false}, {isEdge, 6 + behind, false},
				{isNext, 6 + 2*w, true}, {isMessage, 6 + 9*w, true}, {isEdge, 6 + 9*w, false},
			} {
				switch s.kind {
				case isEdge:
					p.Edge(s.at)
				default:
					p.Message(s.at, api.Msg{Next: s.kind == isNext})
				}
				for range 2 {
					if got := p.Waits(); got != s.waits {
						t.Fatalf("behind %v: Waits: %t", s, got)
					}
				}
			}
		}
	}
}

// P17.1: a message that is Next is not paired with an edge ahead of it, not at its own counter either, nor does it take that.
func TestNextBehindEdge(t *testing.T) {
	const w = wide
	for _, at := range []int64{5, 6, w, w + 5} {
		wantSteps(t, w, step{isEdge, 5, 0}, step{isNext, at, 0}, step{isEdge, at, 2})
		wantSteps(t, w, step{isEdge, 5, 0}, step{isNext, at, 0}, step{isMessage, at, 1}, step{isEdge, at, 2}, step{isMessage, at, 0})
		wantSteps(t, w, step{isEdge, 5, 0}, step{isMessage, 5, 1}, step{isNext, at, 0}, step{isMessage, at, 0}, step{isEdge, at + w, 3})
	}
}

// P17.1: one that is Next takes the place of the one that waits: it alone is paired, and by its own counter.
func TestNextForNext(t *testing.T) {
	const w = wide
	wantSteps(t, w, step{isNext, 0, 0}, step{isNext, 0, 0}, step{isEdge, 0, 2}, step{isEdge, 0, 0})
	wantSteps(t, w, step{isNext, 0, 0}, step{isNext, 1, 0}, step{isEdge, w, 2}, step{isEdge, w + 1, 0})
	wantSteps(t, w, step{isNext, 0, 0}, step{isNext, 1, 0}, step{isEdge, w + 1, 2})
	wantSteps(t, w, step{isNext, 0, 0}, step{isNext, 1, 0}, step{isEdge, w + 2, 0}, step{isEdge, w + 2, 0})
	wantSteps(t, w, step{isNext, 0, 0}, step{isNext, 3 * w, 0}, step{isNext, 5 * w, 0}, step{isEdge, 6 * w, 3})
}

// P17.1: one that is not Next leaves the one that waits, and is paired by itself, if it may be.
func TestMessageWhileOneWaits(t *testing.T) {
	const w = wide
	wantSteps(t, w, step{isNext, 0, 0}, step{isMessage, 0, 0}, step{isEdge, 0, 1}, step{isMessage, 0, 0})
	wantSteps(t, w, step{isNext, 0, 0}, step{isMessage, w, 0}, step{isEdge, w, 1})
	wantSteps(t, w, step{isNext, 0, 0}, step{isMessage, w, 0}, step{isEdge, w + 1, 0}, step{isMessage, w + 1, 3})
	wantSteps(t, w, step{isEdge, 0, 0}, step{isNext, 1, 0}, step{isMessage, w, 1}, step{isEdge, w + 1, 2}, step{isMessage, w + 1, 0})
	wantSteps(t, w, step{isEdge, 0, 0}, step{isNext, 1, 0}, step{isMessage, w, 1}, step{isMessage, w, 0}, step{isEdge, w + 2, 0}, step{isMessage, w + 2, 5})
}

// P17.1: an edge that was paired with the one that waited is taken for one that is not Next.
func TestMessageBehindNextPair(t *testing.T) {
	const w = wide
	for _, behind := range []int64{0, 1, w} {
		for _, more := range []int64{0, 1, w - 1, w, w + 1} {
			wantSteps(t, w, step{isNext, 9, 0}, step{isEdge, 9 + behind, 1}, step{isMessage, 9 + behind + more, 0})
			// The other way round another edge, that is not taken, stands ahead.
			wantSteps(t, w, step{isEdge, 0, 0}, step{isNext, 9, 0}, step{isEdge, 9 + behind, 2}, step{isMessage, 9 + behind + more, 0})
		}
	}
	// One for which it came too late leaves the edge free.
	for _, more := range []int64{0, 1, w} {
		wantSteps(t, w, step{isNext, 9, 0}, step{isEdge, 10 + w, 0}, step{isMessage, 10 + w + more, 2}, step{isMessage, 10 + w + more, 0})
	}
	wantSteps(t, w, step{isNext, 9, 0}, step{isEdge, 10 + w, 0}, step{isMessage, 11 + 2*w, 0})
}

// P17.1: edges within a window make no pair but by Next, however many there are.
func TestCloseEdges(t *testing.T) {
	b := made(t, wide)
	at := int64(0)
	for i := range 60 {
		at += wide / 3
		next := i%5 == 2
		b.message(t, at, next)
		if x, ok := b.edge(t, at+1); ok != next {
			t.Fatalf("edge %d: %v, %t", i, x, ok)
		}
		if x, ok := b.message(t, at+2, false); ok && i > 0 {
			t.Fatalf("message %d: %v", i, x)
		}
	}
}

// P17.1: second by second each message that is Next is paired with the edge behind it.
func TestSecondsNext(t *testing.T) {
	b := made(t, wide)
	for i := range int64(300) {
		b.message(t, (i+1)*api.Second-wide, true)
		if x, ok := b.edge(t, (i+1)*api.Second); !ok || x.Edge != (i+1)*api.Second || !x.Msg.Next {
			t.Fatalf("second %d: %v, %t", i, x, ok)
		}
		if x, ok := b.message(t, (i+1)*api.Second, false); ok {
			t.Fatalf("second %d: %v twice", i, x)
		}
	}
}
