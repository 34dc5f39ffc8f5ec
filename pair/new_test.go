package pair

import (
	"testing"

	"remontoire/api"
)

// P17.1, P17.2: the known answers.
func TestExamples(t *testing.T) {
	p, e := New(500_000_000)
	if e != api.OK {
		t.Fatal(e)
	}
	first, second, third := api.Msg{Kind: api.MsgZDA, Sec: 1}, api.Msg{Kind: api.MsgRMC, Sec: 2}, api.Msg{Kind: api.MsgTimTP, Sec: 3, Next: true}
	if x, ok := p.Edge(1_000_000_000); ok || x != (api.Paired{}) {
		t.Error(x, ok)
	}
	if x, ok := p.Message(1_200_000_000, first); !ok || x != (api.Paired{Edge: 1_000_000_000, Msg: first}) {
		t.Error(x, ok)
	}
	if x, ok := p.Message(1_300_000_000, second); ok || x != (api.Paired{}) {
		t.Error(x, ok)
	}
	if p.Waits() {
		t.Error("a message waits that is not Next")
	}
	if x, ok := p.Message(1_900_000_000, third); ok || x != (api.Paired{}) || !p.Waits() {
		t.Error(x, ok, p.Waits())
	}
	if x, ok := p.Edge(2_000_000_000); !ok || x != (api.Paired{Edge: 2_000_000_000, Msg: third}) || p.Waits() {
		t.Error(x, ok, p.Waits())
	}
}

// P17.1: which windows may be; one that may not be makes no pairing.
func TestWindows(t *testing.T) {
	for _, w := range []int64{
		100_000_000, 100_000_001, 100_000_002, 500_000_000, 536_870_912, 899_999_998, 899_999_999, 900_000_000,
	} {
		made(t, w)
	}
	for _, w := range []int64{
		99_999_999, 99_999_998, 900_000_001, 900_000_002, 0, 1, 2, -1, -2, 1_000_000_000, -100_000_000, -500_000_000, -900_000_000,
		1 << 31, 1<<32 + 500_000_000, 1<<33 + 100_000_000, -1<<32 + 500_000_000, 1 << 62, -1 << 62, most, most - 1, least, least + 1,
	} {
		if p, e := New(w); p != nil || e != api.ErrArg {
			t.Errorf("New of %d: %v, %d", w, p, e)
		}
	}
}

// P17.1: to a new pairing nothing has come: none waits, no edge is there, any counter from 0 on may come.
func TestNewHasNothing(t *testing.T) {
	for _, w := range windows {
		for _, at := range []int64{0, 1, w - 1, w, w + 1, 1 << 40, most - 1, most} {
			wantSteps(t, w, step{isEdge, at, 0}, step{isMessage, at, 1})
			wantSteps(t, w, step{isMessage, at, 0}, step{isEdge, at, 0}, step{isMessage, at, 2})
			wantSteps(t, w, step{isNext, at, 0}, step{isEdge, at, 1})
		}
	}
}

// P17.1: what comes to one pairing does not come to another one.
func TestNewOnes(t *testing.T) {
	a, b := made(t, wide), made(t, wide)
	if a.p == b.p {
		t.Fatal("New told one pairing twice")
	}
	a.edge(t, 10)
	a.message(t, 11, true)
	b.wantLike(t)
	b.message(t, 5, false)
	b.edge(t, 6)
	a.edge(t, 12)
	b.wantLike(t)
	b.message(t, 7, false)
	a.wantLike(t)
}

// P17.1: each pairing goes by its own window, on both sides of an edge.
func TestWindowIsKept(t *testing.T) {
	for _, w := range windows {
		const at = 5_000_000_000
		wantSteps(t, w, step{isEdge, at, 0}, step{isMessage, at + w, 1})
		wantSteps(t, w, step{isEdge, at, 0}, step{isMessage, at + w + 1, 0})
		wantSteps(t, w, step{isNext, at, 0}, step{isEdge, at + w, 1})
		wantSteps(t, w, step{isNext, at, 0}, step{isEdge, at + w + 1, 0})
		wantSteps(t, w, step{isEdge, at, 0}, step{isEdge, at + 1, 0}, step{isMessage, at + w, 0})
		wantSteps(t, w, step{isEdge, at, 0}, step{isEdge, at + 1, 0}, step{isMessage, at + w + 1, 2})
	}
}
