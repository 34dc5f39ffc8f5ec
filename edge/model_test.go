package edge

import (
	"math"
	"math/rand"
	"slices"
	"testing"

	"remontoire/api"
)

// model is a log as a plain list of all edges that ever came.
type model struct{ came []int64 }

func (m *model) add(c int64) api.Errno {
	if c < 0 {
		return api.ErrArg
	}
	if n := len(m.came); n > 0 && c < m.came[n-1] {
		return api.ErrArg
	}
	m.came = append(m.came, c)
	return api.OK
}

// kept is the last eight of all that came.
func (m *model) kept() []int64 {
	if n := len(m.came); n > 8 {
		return m.came[n-8:]
	}
	return m.came
}

func (m *model) count(from, to int64) int {
	n := 0
	for _, c := range m.kept() {
		if c >= from && c <= to {
			n++
		}
	}
	return n
}

func (m *model) copy() *model { return &model{slices.Clone(m.came)} }

// bounds are what a range is asked from and to: those on each edge, one below and one above it, and far ones.
func (m *model) bounds() []int64 {
	told := []int64{math.MinInt64, math.MinInt64 + 1, -1 << 40, -2, -1, 0, 1, 1 << 40, math.MaxInt64 - 1, math.MaxInt64}
	for _, c := range m.kept() {
		told = append(told, c-1, c)
		if c < math.MaxInt64 {
			told = append(told, c+1)
		}
	}
	slices.Sort(told)
	return slices.Compact(told)
}

// wantLike asks a log all that it tells, and holds it against the model.
func wantLike(t *testing.T, x *Edges, m *model) {
	t.Helper()
	kept := m.kept()
	wantAll(t, x, kept...)
	if n := len(kept); n > 0 {
		wantLast(t, x, kept[n-1], true)
	} else {
		wantLast(t, x, 0, false)
	}
	bounds := m.bounds()
	for _, from := range bounds {
		for _, to := range bounds {
			if n, want := x.Count(from, to), m.count(from, to); n != want {
				t.Fatalf("Count %d, %d: %d, want %d; kept are %v", from, to, n, want, kept)
			}
		}
	}
}

func wantAll(t *testing.T, x *Edges, want ...int64) {
	t.Helper()
	if told := x.All(); !slices.Equal(told, want) {
		t.Fatalf("All: %v, want %v", told, want)
	}
}

func wantLast(t *testing.T, x *Edges, want int64, some bool) {
	t.Helper()
	if c, ok := x.Last(); c != want || ok != some {
		t.Fatalf("Last: %d, %v, want %d, %v", c, ok, want, some)
	}
}

func wantCount(t *testing.T, x *Edges, from, to int64, want int) {
	t.Helper()
	if n := x.Count(from, to); n != want {
		t.Fatalf("Count %d, %d: %d, want %d; kept are %v", from, to, n, want, x.All())
	}
}

// wantAdd adds to both.
func wantAdd(t *testing.T, x *Edges, m *model, c int64) {
	t.Helper()
	ahead := x.All()
	if e, want := x.Add(c), m.add(c); e != want {
		t.Fatalf("Add %d: %d, want %d; kept were %v", c, e, want, ahead)
	}
}

// with is a log to which these edges came, and its model.
func with(t *testing.T, edges ...int64) (*Edges, *model) {
	t.Helper()
	x, m := New(), &model{}
	for _, c := range edges {
		if e := x.Add(c); e != api.OK {
			t.Fatalf("Add %d: %d", c, e)
		}
		m.add(c)
	}
	return x, m
}

// rising is n edges, each one above the one ahead of it.
func rising(n int) []int64 {
	told := make([]int64, n)
	for i := range told {
		told[i] = 100 + 10*int64(i)
	}
	return told
}

// sizes are how many edges came: none, some, a full log, and more that go round it once and more often.
func sizes() []int {
	return []int{0, 1, 2, 3, 7, 8, 9, 10, 15, 16, 17, 23, 24, 25, 63, 64, 65, 1000, 1003}
}

// drawnEdge is a counter that may come or is refused, mostly near the last one.
func drawnEdge(r *rand.Rand, m *model) int64 {
	last := int64(0)
	if n := len(m.came); n > 0 {
		last = m.came[n-1]
	}
	switch r.Intn(12) {
	case 0:
		return last
	case 1:
		return last - 1
	case 2:
		return -r.Int63()
	case 3:
		return r.Int63n(last + 1)
	case 4:
		return last + 1
	case 5:
		return last + (math.MaxInt64-last)>>20
	}
	return last + r.Int63n(min(2_000_000_000, math.MaxInt64-last)+1)
}
