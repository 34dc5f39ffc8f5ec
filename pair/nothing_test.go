package pair

import (
	"math/rand"
	"reflect"
	"testing"

	"remontoire/api"
)

// states are pairings in all states that differ: what came last, whether one waits, whether the last edge is taken, how many edges came.
func states() [][]step {
	const a, w = 5_000_000_000, wide
	full := []step{}
	for i := range int64(11) {
		full = append(full, step{isEdge, i * 1_000_000, 0})
	}
	return [][]step{
		{},
		{{isEdge, 0, 0}}, {{isMessage, 0, 0}}, {{isNext, 0, 0}},
		{{isEdge, 1, 0}}, {{isMessage, 1, 0}}, {{isNext, 1, 0}},
		{{isEdge, a, 0}}, {{isMessage, a, 0}}, {{isNext, a, 0}},
		{{isEdge, a, 0}, {isEdge, a, 0}}, {{isEdge, a, 0}, {isEdge, a + w + 1, 0}},
		{{isEdge, a, 0}, {isMessage, a + 9, 1}}, {{isEdge, a, 0}, {isNext, a + 9, 0}}, {{isEdge, a, 0}, {isMessage, a + w + 1, 0}},
		{{isEdge, a, 0}, {isMessage, a + 9, 1}, {isNext, a + 10, 0}},
		{{isNext, a, 0}, {isEdge, a + 9, 1}}, {{isNext, a, 0}, {isEdge, a + 2*w, 0}},
		{{isNext, a, 0}, {isMessage, a + 9, 0}}, {{isNext, a, 0}, {isNext, a + 9, 0}},
		{{isEdge, most, 0}}, {{isMessage, most, 0}}, {{isNext, most, 0}},
		full, append(full[:len(full):len(full)], step{isNext, a, 0}),
	}
}

// in is a pairing in a state.
func in(t *testing.T, state []step) both {
	t.Helper()
	b := made(t, wide)
	for i := range state {
		wantStep(t, b, state, i)
	}
	return b
}

// below is counters at which nothing comes any more.
func below(latest int64) []int64 {
	told := []int64{-1, -2, -wide, -wide - 1, -1 << 32, -1 << 62, least + 1, least}
	for _, c := range []int64{latest - 1, latest - 2, latest - 9, latest - wide, latest - wide - 1, latest / 2, latest - 1<<32, 1, 0} {
		if c < latest {
			told = append(told, c)
		}
	}
	return told
}

// P17.1: what comes at a counter below 0, or below one that came, is nothing: it makes no pair, and changes nothing.
func TestNothingBelow(t *testing.T) {
	for _, state := range states() {
		b := in(t, state)
		ahead := inside(b.p)
		for _, c := range below(b.m.latest()) {
			for kind := isEdge; kind <= isNext; kind++ {
				if x, ok := b.comes(t, kind, c); ok || x != (api.Paired{}) {
					t.Fatalf("behind %v kind %d at %d: %v, %t", state, kind, c, x, ok)
				}
				if got := inside(b.p); !reflect.DeepEqual(got, ahead) {
					t.Fatalf("behind %v kind %d at %d changed %v into %v", state, kind, c, ahead, got)
				}
			}
		}
		if len(b.m.list) != len(state) {
			t.Fatalf("behind %v came %v", state, b.m.list)
		}
	}
}

// inside is all that a pairing has, at one moment.
func inside(p *Pairs) []any {
	told := []any{p.made.window, p.made.latest, p.made.taken, p.made.waits != nil, *p.made.Edges}
	if p.made.waits != nil {
		told = append(told, *p.made.waits)
	}
	return told
}

// P17.1: behind each single thing that was nothing all is told as if it had not come.
func TestNothingIsNoBound(t *testing.T) {
	for _, state := range states() {
		latest := in(t, state).m.latest()
		for _, c := range below(latest) {
			for kind := isEdge; kind <= isNext; kind++ {
				for then := isEdge; then <= isNext; then++ {
					b, plain := in(t, state), in(t, state)
					b.comes(t, kind, c)
					for range 2 {
						got, ok := b.comes(t, then, latest)
						if want, some := plain.comes(t, then, latest); got != want || ok != some {
							t.Fatalf("behind %v and nothing of kind %d at %d: %v, %t, want %v, %t", state, kind, c, got, ok, want, some)
						}
						if !reflect.DeepEqual(inside(b.p), inside(plain.p)) {
							t.Fatalf("behind %v kind %d at %d changed what comes then", state, kind, c)
						}
					}
				}
			}
		}
	}
}

// P17.1: each kind bounds each kind: what is equal to the latest one comes, what is one below is nothing.
func TestEachKindBounds(t *testing.T) {
	for _, at := range []int64{1, 7, wide, 1 << 40, most} {
		for first := isEdge; first <= isNext; first++ {
			for then := isEdge; then <= isNext; then++ {
				b := made(t, wide)
				b.comes(t, first, at)
				b.comes(t, then, at-1)
				if len(b.m.list) != 1 {
					t.Fatalf("%v came", b.m.list)
				}
				b.comes(t, isNext, at)
				if x, ok := b.comes(t, isEdge, at); !ok || x.Edge != at {
					t.Fatalf("%v, %t behind %v", x, ok, b.m.list)
				}
				b.comes(t, then, at)
			}
		}
	}
}

// P17.1: an edge below a message is no edge, and ends no waiting; a message below an edge is in no pair, and waits not.
func TestNothingOfEachKind(t *testing.T) {
	const w = wide
	for _, c := range []int64{99, 0, -1, least} {
		b := made(t, w)
		b.message(t, 100, true)
		b.edge(t, c)
		if !b.p.Waits() {
			t.Fatalf("an edge at %d ended the waiting of a message at 100", c)
		}
		if x, ok := b.edge(t, 100+w); !ok || x.Edge != 100+w {
			t.Fatalf("%v, %t", x, ok)
		}

		b = made(t, w)
		b.edge(t, 100)
		b.message(t, c, true)
		if b.p.Waits() {
			t.Fatalf("a message at %d waits, an edge came at 100", c)
		}
		b.message(t, c, false)
		if x, ok := b.message(t, 100, false); !ok || x.Edge != 100 {
			t.Fatalf("%v, %t", x, ok)
		}

		b = made(t, w)
		b.message(t, 100, true)
		want := b.m.list[0].msg
		b.message(t, c, true)
		if x, ok := b.edge(t, 101); !ok || x.Msg != want {
			t.Fatalf("%v, %t", x, ok)
		}

		b = made(t, w)
		b.edge(t, 100)
		b.edge(t, c)
		if x, ok := b.message(t, 101, false); !ok || x.Edge != 100 {
			t.Fatalf("%v, %t", x, ok)
		}
	}
}

// P17.1: of two runs, of which one has things between that are nothing, all else is told alike.
func TestNothingInDrawnRuns(t *testing.T) {
	r := rand.New(rand.NewSource(173))
	for range 400 {
		a, b := made(t, wide), made(t, wide)
		for range 50 {
			for range r.Intn(4) {
				l := below(b.m.latest())
				b.comes(t, r.Intn(3), l[r.Intn(len(l))])
			}
			kind, at := r.Intn(3), max(drawnCounter(r, a.m), a.m.latest())
			got, ok := b.comes(t, kind, at)
			if want, some := a.comes(t, kind, at); got != want || ok != some {
				t.Fatalf("%v, %t, want %v, %t", got, ok, want, some)
			}
		}
		if !reflect.DeepEqual(inside(a.p), inside(b.p)) {
			t.Fatalf("%v, %v", inside(a.p), inside(b.p))
		}
	}
}
