package pair

import (
	"math"
	"testing"

	"remontoire/api"
)

// starts are counters that things begin at, with room for some windows behind them.
func starts() []int64 {
	return []int64{0, 1, 99, wide, api.MaxWindow, 1_000_000_000, 1 << 32, 1 << 60, most - 4*api.MaxWindow}
}

// P17.1: a message that is not Next is paired with the last edge, if it is from 0 to the window behind it.
func TestMessageBehindEdge(t *testing.T) {
	for _, w := range windows {
		for _, at := range starts() {
			for _, behind := range []int64{0, 1, 2, w / 2, w - 2, w - 1, w} {
				wantSteps(t, w, step{isEdge, at, 0}, step{isMessage, at + behind, 1})
			}
			for _, behind := range []int64{w + 1, w + 2, 2 * w, 2*w + 1, 3 * w} {
				wantSteps(t, w, step{isEdge, at, 0}, step{isMessage, at + behind, 0})
			}
		}
		wantSteps(t, w, step{isEdge, 0, 0}, step{isMessage, most, 0})
		wantSteps(t, w, step{isEdge, most - w, 0}, step{isMessage, most, 1})
		wantSteps(t, w, step{isEdge, most - w - 1, 0}, step{isMessage, most, 0})
	}
}

// P17.1: a message ahead of which no edge is, or that an edge comes behind, is in no pair, and waits not.
func TestMessageAheadOfEdge(t *testing.T) {
	for _, at := range starts() {
		for _, behind := range []int64{0, 1, wide, wide + 1} {
			wantSteps(t, wide, step{isMessage, at, 0}, step{isEdge, at + behind, 0}, step{isMessage, at + behind, 2})
		}
		wantSteps(t, wide, step{isMessage, at, 0}, step{isMessage, at, 0}, step{isMessage, at + 1, 0})
	}
}

// P17.1: another edge within the window ahead of the message, also at its very bound, leaves it without a pair; one beyond it does not.
func TestAnotherEdge(t *testing.T) {
	for _, w := range windows {
		for _, m := range []int64{2 * w, 5_000_000_000, 1 << 60, most} {
			for _, last := range []int64{m, m - 1, m - w/2, m - w + 1, m - w} {
				for _, other := range []int64{last, last - 1, m - w + 1, m - w} {
					if other <= last && other >= m-w {
						wantSteps(t, w, step{isEdge, other, 0}, step{isEdge, last, 0}, step{isMessage, m, 0})
					}
				}
				for _, other := range []int64{m - w - 1, m - w - 2, m - 2*w, 0} {
					wantSteps(t, w, step{isEdge, other, 0}, step{isEdge, last, 0}, step{isMessage, m, 2})
				}
			}
			// Both are beyond the window.
			wantSteps(t, w, step{isEdge, m - w - 2, 0}, step{isEdge, m - w - 1, 0}, step{isMessage, m, 0})
		}
		// Ahead of a message at less than the window all edges are within it.
		wantSteps(t, w, step{isEdge, 0, 0}, step{isEdge, w, 0}, step{isMessage, w, 0})
		wantSteps(t, w, step{isEdge, 0, 0}, step{isEdge, 1, 0}, step{isMessage, w - 1, 0})
		wantSteps(t, w, step{isEdge, 0, 0}, step{isEdge, 1, 0}, step{isMessage, w, 0}, step{isMessage, w + 1, 2})
	}
}

// P17.1: an edge that is in a pair is another edge, too, while it is within the window.
func TestAnotherEdgeInPair(t *testing.T) {
	const w = wide
	wantSteps(t, w, step{isEdge, 0, 0}, step{isMessage, 5, 1}, step{isEdge, w, 0}, step{isMessage, w, 0}, step{isMessage, w + 1, 3})
	wantSteps(t, w, step{isNext, 0, 0}, step{isEdge, 7, 1}, step{isEdge, w, 0}, step{isMessage, w + 7, 0}, step{isMessage, w + 8, 3})
	wantSteps(t, w, step{isEdge, 0, 0}, step{isMessage, 0, 1}, step{isEdge, 0, 0}, step{isMessage, w, 0}, step{isMessage, w + 1, 0})
}

// P17.1: a message that was in no pair for another edge's sake takes nothing: a later one is paired once that edge is beyond the window.
func TestLaterMessage(t *testing.T) {
	const w = wide
	wantSteps(t, w,
		step{isEdge, 100, 0}, step{isEdge, 100 + w, 0},
		step{isMessage, 100 + w, 0}, step{isMessage, 100 + w, 0}, step{isMessage, 101 + w, 2}, step{isMessage, 102 + w, 0})
	wantSteps(t, w,
		step{isEdge, 100, 0}, step{isEdge, 200, 0}, step{isMessage, 100 + w, 0}, step{isMessage, 200 + w, 2}, step{isMessage, 200 + w, 0})
}

// P17.1: among more edges than are kept, those that layer 16 keeps are asked; of equal or close ones the last one is never alone.
func TestManyEdges(t *testing.T) {
	for _, w := range windows {
		for n := 1; n <= 20; n++ {
			for _, gap := range []int64{0, 1, w / 100, w / 10, w / 8, w / 7, w/2 + 1, w - 1, w, w + 1, 3 * w} {
				b := made(t, w)
				last := int64(0)
				for i := range n {
					last = 1000 + int64(i)*gap
					b.edge(t, last)
				}
				// Where the last edge but one is just beyond the window, and where the last one is.
				for _, m := range []int64{last, last + 1, last - gap + w, last - gap + w + 1, last + w, last + w + 1} {
					if m < last {
						continue
					}
					c := b.copy(t)
					want := m-last <= w && (n == 1 || m-(last-gap) > w)
					if x, ok := c.message(t, m, false); ok != want {
						t.Fatalf("%d edges, each %d behind the one ahead of it, a message %d behind: %v, %t", n, gap, m-last, x, ok)
					}
				}
			}
		}
	}
}

// P17.1: an edge that is gone out of layer 16's log stands in no one's way, and makes no pair; those that push it out do.
func TestEdgesNotKept(t *testing.T) {
	const w = wide
	for n := 8; n <= 30; n++ {
		b := made(t, w)
		b.edge(t, 0)
		for range n {
			b.edge(t, 10)
		}
		for _, m := range []int64{10, w, w + 1, w + 10, w + 11} {
			if x, ok := b.message(t, m, false); ok {
				t.Fatalf("a message at %d behind %d equal edges: %v", m, n, x)
			}
		}
		b.edge(t, w+11)
		if x, ok := b.message(t, w+11, false); !ok || x.Edge != w+11 {
			t.Fatalf("behind %d equal edges and one alone: %v, %t", n, x, ok)
		}
	}
}

// P17.1: an edge that is taken is in no second pair, wherever other edges stand.
func TestSecondMessage(t *testing.T) {
	const w = wide
	for _, m := range []int64{0, 1, w / 2, w} {
		for _, more := range []int64{0, 1, w - m, w + 1 - m, 2 * w} {
			wantSteps(t, w, step{isEdge, 0, 0}, step{isMessage, m, 1}, step{isMessage, m + more, 0}, step{isMessage, m + more, 0})
			// With another edge ahead of it, beyond the window.
			wantSteps(t, w,
				step{isEdge, 0, 0}, step{isEdge, 3 * w, 0},
				step{isMessage, 3*w + m, 2}, step{isMessage, 3*w + m + more, 0}, step{isMessage, 3*w + m + more, 0})
			// With another edge ahead of it, that is taken itself, or that had no pair.
			wantSteps(t, w,
				step{isEdge, 0, 0}, step{isMessage, 1, 1}, step{isEdge, 3 * w, 0},
				step{isMessage, 3*w + m, 3}, step{isMessage, 3*w + m + more, 0})
		}
		// With another edge behind it: that is the last one then, and none is paired but with that.
		wantSteps(t, w, step{isEdge, 0, 0}, step{isMessage, m, 1}, step{isEdge, m, 0}, step{isMessage, m, 0}, step{isMessage, m, 0})
		wantSteps(t, w, step{isEdge, 0, 0}, step{isMessage, m, 1}, step{isEdge, w + 1, 0}, step{isMessage, w + 1, 3}, step{isMessage, w + 1, 0})
		wantSteps(t, w, step{isEdge, 0, 0}, step{isMessage, m, 1}, step{isEdge, w, 0}, step{isMessage, w, 0}, step{isMessage, 2 * w, 3}, step{isMessage, 2 * w, 0})
	}
}

// P17.1: second by second each edge is paired with the message behind it.
func TestSeconds(t *testing.T) {
	b := made(t, wide)
	for i := range int64(300) {
		b.edge(t, i*api.Second)
		if x, ok := b.message(t, i*api.Second+wide, false); !ok || x.Edge != i*api.Second {
			t.Fatalf("second %d: %v, %t", i, x, ok)
		}
		if x, ok := b.message(t, i*api.Second+wide, false); ok {
			t.Fatalf("second %d: %v twice", i, x)
		}
	}
}

// P17.1: a pair has the whole message that made it, whatever that tells, and no other one's parts.
func TestMessageWhole(t *testing.T) {
	for _, x := range []api.Msg{
		{}, {Kind: 255}, {UTC: true}, {Sec: most}, {Sec: least}, {Leap: true}, {Cycle: math.MaxInt32}, {Cycle: -1},
		{Kind: api.MsgSirf52, UTC: true, Sec: 3_692_217_599, Leap: true, Cycle: 100},
		{Kind: api.MsgTimTP, Sec: -5, Cycle: 1024},
	} {
		for _, other := range []api.Msg{{}, {Kind: 9, UTC: true, Sec: 77, Leap: true, Cycle: 1024, Next: true}} {
			p, _ := New(wide)
			p.Message(1, other)
			p.Edge(2 * api.Second)
			if got, ok := p.Message(2*api.Second+1, x); !ok || got != (api.Paired{Edge: 2 * api.Second, Msg: x}) {
				t.Errorf("%v behind its edge: %v, %t", x, got, ok)
			}
			x.Next = true
			p.Message(3*api.Second, other)
			p.Message(3*api.Second, x)
			other.Next = false
			p.Message(3*api.Second, other)
			if got, ok := p.Edge(3*api.Second + 1); !ok || got != (api.Paired{Edge: 3*api.Second + 1, Msg: x}) {
				t.Errorf("%v ahead of its edge: %v, %t", x, got, ok)
			}
			x.Next = false
		}
	}
}
