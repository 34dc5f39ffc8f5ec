package pair

import (
	"math/rand"
	"testing"

	"remontoire/api"
)

// P17.1, P17.2: all short runs, at the bounds of the window, against a plain list of all that came; each further step goes with a copy.
func TestAllShortRuns(t *testing.T) {
	const w = api.MinWindow
	for _, s := range []struct {
		depth  int
		behind []int64
	}{
		{4, []int64{-1, 0, 1, w - 1, w, w + 1}},
		{5, []int64{0, 1, w, w + 1}},
		{7, []int64{0, w + 1}},
	} {
		goOn(t, made(t, w), s.depth, s.behind)
	}
}

// goOn lets each kind come at each of the counters behind the latest one, to a copy each, and goes on from there.
func goOn(t *testing.T, b both, depth int, behind []int64) {
	t.Helper()
	if depth == 0 {
		return
	}
	latest := b.m.latest()
	for _, more := range behind {
		for kind := isEdge; kind <= isNext; kind++ {
			c := both{b.p.Copy(), b.m.copy()}
			c.comes(t, kind, latest+more)
			goOn(t, c, depth-1, behind)
		}
	}
	b.wantLike(t)
}

// P17.1, P17.2: drawn runs of many windows against a plain list of all that came.
func TestDrawnRuns(t *testing.T) {
	r := rand.New(rand.NewSource(171))
	pairs := 0
	for i := range 4000 {
		w := windows[i%len(windows)]
		if i%2 > 0 {
			w = api.MinWindow + r.Int63n(api.MaxWindow-api.MinWindow+1)
		}
		b := made(t, w)
		if i%5 == 0 {
			b.comes(t, r.Intn(3), most-r.Int63n(20*w))
		}
		for range r.Intn(80) {
			if _, ok := b.comes(t, r.Intn(3), drawnCounter(r, b.m)); ok {
				pairs++
			}
		}
	}
	if pairs < 10_000 {
		t.Errorf("only %d pairs were made", pairs)
	}
}

// P17.1: what follows, asked of the answers alone: no edge and no message is in two pairs, an edge is at most the window off its message, and but by Next no other edge is within the window ahead of it.
func TestWhatFollows(t *testing.T) {
	r := rand.New(rand.NewSource(172))
	for range 2000 {
		w := api.MinWindow + r.Int63n(api.MaxWindow-api.MinWindow+1)
		f := follows{t: t, window: w, edges: map[int64]int{}, pairs: map[int64]int{}, messages: map[int64]int64{}}
		p, _ := New(w)
		at := r.Int63n(1 << 50)
		for i := range int64(60) {
			at += []int64{0, 1, w / 9, w / 2, w - 1, w, w + 1, r.Int63n(2 * w)}[r.Intn(8)]
			if r.Intn(2) == 0 {
				f.edges[at]++
				f.told(p.Edge(at))
				continue
			}
			f.messages[i] = at
			f.told(p.Message(at, api.Msg{Sec: i, Next: r.Intn(2) == 0}))
		}
	}
}

// follows is how many edges came at a counter, how many of them were told in pairs, and where each message came that is in no pair.
type follows struct {
	t            *testing.T
	window       int64
	edges, pairs map[int64]int
	messages     map[int64]int64
}

func (f follows) told(x api.Paired, ok bool) {
	f.t.Helper()
	if !ok {
		return
	}
	if f.pairs[x.Edge]++; f.pairs[x.Edge] > f.edges[x.Edge] {
		f.t.Fatalf("%d edges came at %d, %d were in pairs", f.edges[x.Edge], x.Edge, f.pairs[x.Edge])
	}
	at, free := f.messages[x.Msg.Sec]
	if !free {
		f.t.Fatalf("%v, of a message that did not come or was in a pair", x)
	}
	delete(f.messages, x.Msg.Sec)
	if x.Msg.Next {
		if x.Edge < at || x.Edge-at > f.window {
			f.t.Fatalf("%v, of a message at %d; the window is %d", x, at, f.window)
		}
		return
	}
	if at < x.Edge || at-x.Edge > f.window {
		f.t.Fatalf("%v, of a message at %d; the window is %d", x, at, f.window)
	}
	for c, n := range f.edges {
		if c >= at-f.window && c <= at && (c != x.Edge || n > 1) {
			f.t.Fatalf("%v, of a message at %d; the window is %d, %d edges are at %d", x, at, f.window, n, c)
		}
	}
}

// P17.1: a message behind very many edges, and an edge behind very many messages.
func TestLongRun(t *testing.T) {
	p, _ := New(wide)
	for i := range int64(100_000) {
		x := api.Msg{Sec: i, Next: i%3 == 0}
		at := i * api.Second
		if x.Next {
			p.Message(at-min(at, wide), x)
		}
		got, ok := p.Edge(at)
		if ok != x.Next || ok && got != (api.Paired{Edge: at, Msg: x}) {
			t.Fatalf("edge %d: %v, %t", i, got, ok)
		}
		if !x.Next {
			if got, ok = p.Message(at+wide-1, x); !ok || got != (api.Paired{Edge: at, Msg: x}) {
				t.Fatalf("message %d: %v, %t", i, got, ok)
			}
		}
	}
}
