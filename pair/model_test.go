package pair

import (
	"math"
	"math/rand"
	"slices"
	"testing"

	"remontoire/api"
)

const (
	most  = math.MaxInt64
	least = math.MinInt64
	wide  = 500_000_000 // a window
)

// windows are some that may be.
var windows = []int64{api.MinWindow, api.MinWindow + 1, 123_456_789, wide, api.MaxWindow - 1, api.MaxWindow}

// came is one thing that came: an edge, and whether it is in a pair, or a message.
type came struct {
	isEdge bool
	at     int64
	paired bool
	msg    api.Msg
}

// model is what a pairing should do, told over a plain list of all that came.
type model struct {
	window int64
	list   []came
}

func (m *model) copy() *model { return &model{m.window, slices.Clone(m.list)} }

func (m *model) latest() int64 {
	latest := int64(0)
	for _, x := range m.list {
		latest = max(latest, x.at)
	}
	return latest
}

// edges is the places of the last eight edges.
func (m *model) edges() []int {
	var told []int
	for i, x := range m.list {
		if x.isEdge {
			told = append(told, i)
		}
	}
	return told[max(0, len(told)-8):]
}

// kept is the counters of the last eight edges.
func (m *model) kept() []int64 {
	var told []int64
	for _, i := range m.edges() {
		told = append(told, m.list[i].at)
	}
	return told
}

// waiting is the last message that is Next, if no edge came behind it.
func (m *model) waiting() *came {
	for i := len(m.list) - 1; i >= 0 && !m.list[i].isEdge; i-- {
		if m.list[i].msg.Next {
			return &m.list[i]
		}
	}
	return nil
}

func (m *model) edge(c int64) (api.Paired, bool) {
	if c < 0 || c < m.latest() {
		return api.Paired{}, false
	}
	x := m.waiting()
	ok := x != nil && c-x.at <= m.window
	told := api.Paired{}
	if ok {
		told = api.Paired{Edge: c, Msg: x.msg}
	}
	m.list = append(m.list, came{isEdge: true, at: c, paired: ok})
	return told, ok
}

func (m *model) message(at int64, x api.Msg) (api.Paired, bool) {
	if at < 0 || at < m.latest() {
		return api.Paired{}, false
	}
	edges := m.edges()
	m.list = append(m.list, came{at: at, msg: x})
	if x.Next || len(edges) == 0 {
		return api.Paired{}, false
	}
	last := &m.list[edges[len(edges)-1]]
	if last.paired || at-last.at > m.window {
		return api.Paired{}, false
	}
	for _, i := range edges[:len(edges)-1] {
		if m.list[i].at >= at-m.window {
			return api.Paired{}, false
		}
	}
	last.paired = true
	return api.Paired{Edge: last.at, Msg: x}, true
}

// both is a pairing and its model, to which the same comes; no two messages are alike.
type both struct {
	p *Pairs
	m *model
}

// made is a pairing of a window that may be, and its model.
func made(t *testing.T, window int64) both {
	t.Helper()
	p, e := New(window)
	if p == nil || e != api.OK {
		t.Fatalf("New of %d: %v, %d", window, p, e)
	}
	b := both{p, &model{window: window}}
	b.wantLike(t)
	return b
}

func (b both) copy(t *testing.T) both {
	t.Helper()
	p := b.p.Copy()
	if p == nil || p == b.p {
		t.Fatalf("Copy: %p of %p", p, b.p)
	}
	c := both{p, b.m.copy()}
	c.wantLike(t)
	return c
}

// wantLike asks all that a pairing tells.
func (b both) wantLike(t *testing.T) {
	t.Helper()
	if got, want := b.p.Waits(), b.m.waiting() != nil; got != want {
		t.Fatalf("Waits: %t, want %t behind %v", got, want, b.m.list)
	}
	kept := b.m.kept()
	if told := b.p.All(); !slices.Equal(told, kept) {
		t.Fatalf("All: %v, want %v", told, kept)
	}
	c, ok := b.p.Last()
	if n := len(kept); ok != (n > 0) || n > 0 && c != kept[n-1] || n == 0 && c != 0 {
		t.Fatalf("Last: %d, %t of %v", c, ok, kept)
	}
	if n := b.p.Count(0, most); n != len(kept) {
		t.Fatalf("Count of all: %d of %v", n, kept)
	}
}

func (b both) edge(t *testing.T, c int64) (api.Paired, bool) {
	t.Helper()
	want, some := b.m.edge(c)
	got, ok := b.p.Edge(c)
	if got != want || ok != some {
		t.Fatalf("Edge at %d: %v, %t, want %v, %t; the window is %d, ahead of it came %v", c, got, ok, want, some, b.m.window, b.m.list)
	}
	b.wantLike(t)
	return got, ok
}

func (b both) message(t *testing.T, at int64, next bool) (api.Paired, bool) {
	t.Helper()
	x := numbered(len(b.m.list), next)
	want, some := b.m.message(at, x)
	got, ok := b.p.Message(at, x)
	if got != want || ok != some {
		t.Fatalf("Message at %d, Next %t: %v, %t, want %v, %t; the window is %d, ahead of it came %v", at, next, got, ok, want, some, b.m.window, b.m.list)
	}
	b.wantLike(t)
	return got, ok
}

// numbered is the i-th message, another one than each other one.
func numbered(i int, next bool) api.Msg {
	return api.Msg{Kind: uint8(i%11 + 1), UTC: i%2 > 0, Sec: 1000 + int64(i), Cycle: 1024 * (i % 2), Next: next}
}

// Kinds of steps.
const (
	isEdge = iota
	isMessage
	isNext
)

// comes lets an edge, a message or a message that is Next come.
func (b both) comes(t *testing.T, kind int, at int64) (api.Paired, bool) {
	t.Helper()
	if kind == isEdge {
		return b.edge(t, at)
	}
	return b.message(t, at, kind == isNext)
}

// step is what comes at a counter, and which step, counted from 1 on, it makes a pair with; 0: with none.
type step struct {
	kind int
	at   int64
	with int
}

// wantSteps goes through steps, and from each of them on also with a copy alone.
func wantSteps(t *testing.T, window int64, steps ...step) {
	t.Helper()
	b := made(t, window)
	for i := range steps {
		c := b.copy(t)
		for j := i; j < len(steps); j++ {
			wantStep(t, c, steps, j)
		}
		b.wantLike(t)
		wantStep(t, b, steps, i)
	}
}

func wantStep(t *testing.T, b both, steps []step, i int) {
	t.Helper()
	s := steps[i]
	n := len(b.m.list)
	got, ok := b.comes(t, s.kind, s.at)
	if ok != (s.with > 0) {
		t.Fatalf("step %d of %v: %v, %t", i+1, steps, got, ok)
	}
	if !ok {
		if got != (api.Paired{}) {
			t.Fatalf("step %d of %v: no pair, but %v", i+1, steps, got)
		}
		return
	}
	// Of steps all of which came, the list has just these, in their order.
	edge, msg := s.with-1, n
	if s.kind == isEdge {
		edge, msg = n, s.with-1
	}
	if want := (api.Paired{Edge: steps[edge].at, Msg: b.m.list[msg].msg}); got != want {
		t.Fatalf("step %d of %v: %v, want %v", i+1, steps, got, want)
	}
}

// drawnCounter is a counter that may come or is nothing, mostly at some bound of the window behind something that came.
func drawnCounter(r *rand.Rand, m *model) int64 {
	latest := m.latest()
	room := most - latest
	switch r.Intn(16) {
	case 0:
		return latest - 1
	case 1:
		return -1 - r.Int63n(most)
	case 2:
		return r.Int63n(latest/2 + 1)
	case 3:
		return latest + min(room, r.Int63n(3*m.window))
	case 4, 5:
		return latest + min(room, r.Int63n(m.window/8))
	case 6, 7, 8:
		return latest
	case 9:
		return latest + min(room, 1)
	}
	if len(m.list) == 0 {
		return r.Int63n(10 * m.window)
	}
	x := m.list[len(m.list)-1-r.Intn(min(len(m.list), 10))]
	return x.at + min(most-x.at, m.window-1+r.Int63n(3))
}
