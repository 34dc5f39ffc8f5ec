package pair

import (
	"math/rand"
	"reflect"
	"slices"
	"testing"

	"remontoire/api"
	"remontoire/edge"
)

// P17.1, layer 16: a pairing tells of its edges what a log tells to which they came.
func TestEdgesOfPairing(t *testing.T) {
	r := rand.New(rand.NewSource(175))
	for range 300 {
		b, log := made(t, wide), edge.New()
		for range 40 {
			kind, at := r.Intn(3), max(b.m.latest(), drawnCounter(r, b.m))
			b.comes(t, kind, at)
			if kind == isEdge {
				log.Add(at)
			}
			if got, want := b.p.All(), log.All(); !slices.Equal(got, want) {
				t.Fatalf("All: %v, want %v", got, want)
			}
			gotLast, gotOK := b.p.Last()
			if want, ok := log.Last(); gotLast != want || gotOK != ok {
				t.Fatalf("Last: %d, %t, want %d, %t", gotLast, gotOK, want, ok)
			}
			for _, from := range []int64{least, -1, 0, at - wide, at - 1, at, at / 2, most} {
				for _, to := range []int64{least, -1, 0, at - wide, at - 1, at, at / 2, most} {
					if got, want := b.p.Count(from, to), log.Count(from, to); got != want {
						t.Fatalf("Count %d, %d: %d, want %d of %v", from, to, got, want, log.All())
					}
				}
			}
		}
	}
}

// P17.1: the edges that are told have memory of their own.
func TestEdgesAreOwn(t *testing.T) {
	b := made(t, wide)
	for i := range int64(12) {
		b.edge(t, i*api.Second)
		told := b.p.All()
		clear(told[:cap(told)])
		b.wantLike(t)
		if x, ok := b.message(t, i*api.Second+1, false); !ok || x.Edge != i*api.Second {
			t.Fatal(x, ok)
		}
	}
}

// P17.1: an edge that comes by Add comes to the pairing: it ends a waiting, is in a pair or free, and bounds what comes then.
func TestAdd(t *testing.T) {
	const w = wide
	b := made(t, w)
	b.add(t, 10)
	if x, ok := b.message(t, 10+w, false); !ok || x.Edge != 10 {
		t.Fatal(x, ok)
	}
	b.add(t, 10+w)
	b.message(t, 10+w, true)
	b.add(t, 10+w)
	if b.p.Waits() {
		t.Fatal("a message waits that an edge came behind")
	}
	b.edge(t, 11+w)
	b.message(t, 5*w, true)
	b.add(t, 5*w+3)
	if x, ok := b.message(t, 5*w+4, false); ok {
		t.Fatalf("an edge is taken, but %v", x)
	}
	b.message(t, 5*w+3, true)
	if b.p.Waits() {
		t.Fatal("a message waits that came below an edge")
	}
	b.add(t, most)
	b.add(t, most-1)
	b.add(t, most)
}

// P17.1: Add refuses what would be nothing, and that changes nothing.
func TestAddRefuses(t *testing.T) {
	for _, state := range states() {
		b := in(t, state)
		ahead := inside(b.p)
		latest := b.m.latest()
		for _, c := range below(latest) {
			if e := b.p.Add(c); e != api.ErrArg {
				t.Fatalf("behind %v Add %d: %d", state, c, e)
			}
			if got := inside(b.p); !reflect.DeepEqual(got, ahead) {
				t.Fatalf("behind %v Add %d changed %v into %v", state, c, ahead, got)
			}
		}
		b.add(t, latest)
		b.comes(t, isMessage, latest)
	}
}

// P17.1: in drawn runs it is one whether edges come by Edge or by Add.
func TestAddInDrawnRuns(t *testing.T) {
	r := rand.New(rand.NewSource(176))
	for i := range 500 {
		b := made(t, windows[i%len(windows)])
		for range 50 {
			if at := drawnCounter(r, b.m); r.Intn(4) == 0 {
				b.add(t, at)
			} else {
				b.comes(t, r.Intn(3), at)
			}
		}
	}
}

// add lets an edge come by Add.
func (b both) add(t *testing.T, c int64) {
	t.Helper()
	want, n := api.OK, len(b.m.list)
	if b.m.edge(c); len(b.m.list) == n {
		want = api.ErrArg
	}
	if e := b.p.Add(c); e != want {
		t.Fatalf("Add %d: %d, want %d behind %v", c, e, want, b.m.list)
	}
	b.wantLike(t)
}

// P1, P17.2: one that is not there, and one that was not made, tell nothing at any call, also of the methods of their edges.
func TestNotThere(t *testing.T) {
	far := []int64{least, least + 1, -wide, -1, 0, 1, wide, 1_000_000_000, most - 1, most}
	for i, p := range []*Pairs{nil, {}, new(Pairs)} {
		for _, c := range far {
			for _, x := range []api.Msg{{}, {Next: true}, {Kind: 255, UTC: true, Sec: least, Leap: true, Cycle: -1, Next: true}, numbered(3, false)} {
				if got, ok := p.Message(c, x); ok || got != (api.Paired{}) {
					t.Fatalf("%d: Message at %d: %v, %t", i, c, got, ok)
				}
				if got, ok := p.Edge(c); ok || got != (api.Paired{}) {
					t.Fatalf("%d: Edge at %d: %v, %t", i, c, got, ok)
				}
				wantNothing(t, p, c)
			}
			for _, to := range far {
				if n := p.Count(c, to); n != 0 {
					t.Fatalf("%d: Count %d, %d: %d", i, c, to, n)
				}
			}
		}
		if p != nil && *p != (Pairs{}) {
			t.Fatalf("%d: something came to it: %v", i, *p)
		}
	}
}

func wantNothing(t *testing.T, p *Pairs, c int64) {
	t.Helper()
	if e := p.Add(c); e != api.ErrNil {
		t.Fatalf("Add %d: %d", c, e)
	}
	if p.Waits() {
		t.Fatal("Waits: true")
	}
	if told := p.All(); len(told) > 0 {
		t.Fatalf("All: %v", told)
	}
	if last, ok := p.Last(); last != 0 || ok {
		t.Fatalf("Last: %d, %t", last, ok)
	}
	if other := p.Copy(); other != nil {
		t.Fatalf("Copy: %v", other)
	}
}

// P1: there is no further call, of those that a log has neither, that TestNotThere would have to ask.
func TestAllCalls(t *testing.T) {
	var got []string
	for m := range reflect.TypeFor[*Pairs]().Methods() {
		got = append(got, m.Name)
	}
	if want := []string{"Add", "All", "Copy", "Count", "Edge", "Last", "Message", "Waits"}; !slices.Equal(got, want) {
		t.Fatalf("%v, want %v", got, want)
	}
	for m := range reflect.TypeFor[*edge.Edges]().Methods() {
		if !slices.Contains(got, m.Name) {
			t.Errorf("%s of the edges is no call of a pairing", m.Name)
		}
	}
}
