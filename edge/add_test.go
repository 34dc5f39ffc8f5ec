package edge

import (
	"math"
	"math/rand"
	"slices"
	"testing"

	"remontoire/api"
)

// P16.1, P16.2: the known answers.
func TestExamples(t *testing.T) {
	x := New()
	for _, s := range []struct {
		c    int64
		want api.Errno
	}{{5, api.OK}, {9, api.OK}, {7, api.ErrArg}} {
		if e := x.Add(s.c); e != s.want {
			t.Errorf("Add %d: %d, want %d", s.c, e, s.want)
		}
	}
	wantCount(t, x, 6, 9, 1)
	wantAll(t, x, 5, 9)
	wantLast(t, x, 9, true)
}

// P16.1: a new log has no edges, and is another one than each other one.
func TestNew(t *testing.T) {
	x, y := New(), New()
	if x == nil || y == nil || x == y {
		t.Fatalf("New: %p, %p", x, y)
	}
	wantLike(t, x, &model{})
	if e := x.Add(3); e != api.OK {
		t.Fatal(e)
	}
	wantLike(t, y, &model{})
	wantAll(t, x, 3)
}

// P16.1: into an empty log counters from 0 on come, all others are refused.
func TestAddToNone(t *testing.T) {
	for _, c := range []int64{0, 1, 2, 7, 1 << 31, 1 << 32, 1_000_000_000, 1 << 62, math.MaxInt64 - 1, math.MaxInt64} {
		x := New()
		if e := x.Add(c); e != api.OK {
			t.Errorf("Add %d: %d", c, e)
		}
		wantLike(t, x, &model{[]int64{c}})
	}
	for _, c := range []int64{-1, -2, -7, -1 << 31, -1 << 32, -1_000_000_000, -1 << 62, math.MinInt64 + 1, math.MinInt64} {
		x := New()
		if e := x.Add(c); e != api.ErrArg {
			t.Errorf("Add %d: %d", c, e)
		}
		wantLike(t, x, &model{})
		if e := x.Add(0); e != api.OK {
			t.Errorf("Add 0 behind %d: %d", c, e)
		}
		wantLike(t, x, &model{[]int64{0}})
	}
}

// P16.1: behind edges, however many, the last one may come again and all above it; all below it are refused.
func TestAddBehindEdges(t *testing.T) {
	for _, n := range sizes() {
		if n == 0 {
			continue
		}
		last := rising(n)[n-1]
		for _, c := range []int64{
			last, last + 1, last + 2, 2 * last, math.MaxInt64 - 1, math.MaxInt64,
			last - 1, last - 2, last - 10, last - 11, 100, 99, 1, 0, -1, -last, math.MinInt64 + 1, math.MinInt64,
		} {
			x, m := with(t, rising(n)...)
			wantAdd(t, x, m, c)
			wantLike(t, x, m)
			// What was refused is no bound for what comes then; what came is.
			wantAdd(t, x, m, last)
			wantLike(t, x, m)
		}
	}
}

// P16.1: the ends of what may come: 0 many times, then the greatest counter many times.
func TestAddEnds(t *testing.T) {
	x, m := New(), &model{}
	for range 20 {
		for _, c := range []int64{0, -1, math.MinInt64} {
			wantAdd(t, x, m, c)
			wantLike(t, x, m)
		}
	}
	for range 20 {
		for _, c := range []int64{math.MaxInt64, math.MaxInt64 - 1, 0, -1, math.MinInt64} {
			wantAdd(t, x, m, c)
			wantLike(t, x, m)
		}
	}
	wantCount(t, x, math.MaxInt64, math.MaxInt64, 8)
}

// P16.1: what is refused changes nothing, at every number of edges, however often it comes.
func TestRefusedChangesNothing(t *testing.T) {
	for _, n := range sizes() {
		x, m := with(t, rising(n)...)
		last, _ := x.Last()
		ahead := *x
		for _, c := range []int64{last - 1, -1, math.MinInt64, last - 1, -1, math.MinInt64} {
			if e := x.Add(c); e != api.ErrArg {
				t.Fatalf("Add %d behind %d: %d", c, last, e)
			}
			wantLike(t, x, m)
		}
		if *x != ahead {
			t.Fatalf("%v, it was %v", *x, ahead)
		}
	}
}

// P16.1: of more than eight the oldest one goes; it is held at every step against a plain list of all that came.
func TestGoneRound(t *testing.T) {
	for _, n := range sizes() {
		x, m := New(), &model{}
		wantLike(t, x, m)
		for _, c := range rising(n) {
			wantAdd(t, x, m, c)
			wantLike(t, x, m)
		}
		if got := len(x.All()); got != min(n, api.MaxEdges) {
			t.Fatalf("%d of %d edges are kept", got, n)
		}
		wantAll(t, x, rising(n)[max(0, n-8):]...)
	}
}

// P16.1: of edges that are equal to each other each one takes a place.
func TestEqualEdges(t *testing.T) {
	for run := 1; run <= 20; run++ {
		x, m := New(), &model{}
		for i := range 60 {
			wantAdd(t, x, m, int64(i/run))
			wantLike(t, x, m)
		}
	}
	x, _ := with(t, 7, 7, 7, 8, 8, 8, 8, 8)
	wantCount(t, x, 7, 7, 3)
	wantCount(t, x, 8, 8, 5)
	x.Add(8)
	wantCount(t, x, 7, 7, 2)
	wantCount(t, x, 8, 8, 6)
	wantAll(t, x, 7, 7, 8, 8, 8, 8, 8, 8)
}

// P16.1, P16.2: drawn counters, those that come and those that are refused, at every step against a plain list.
func TestDrawnRuns(t *testing.T) {
	r := rand.New(rand.NewSource(161))
	for range 400 {
		x, m := New(), &model{}
		for range r.Intn(60) {
			wantAdd(t, x, m, drawnEdge(r, m))
			wantLike(t, x, m)
		}
	}
}

// P16.1: behind edges that rise all are told in their order, of long runs too.
func TestLongRun(t *testing.T) {
	x, m := New(), &model{}
	for i := range int64(100_000) {
		wantAdd(t, x, m, i*1_000_000_000)
		if c, ok := x.Last(); c != i*1_000_000_000 || !ok {
			t.Fatal(c, ok)
		}
		if told := x.All(); !slices.Equal(told, m.kept()) || !slices.IsSorted(told) {
			t.Fatal(told)
		}
	}
}

// P1, P16.1: one that is not there tells ErrNil of Add, whatever comes, and nothing else; so does one that was not made.
func TestNotThere(t *testing.T) {
	for _, x := range []*Edges{nil, {}} {
		for _, c := range []int64{math.MinInt64, -1, 0, 1, 5, math.MaxInt64} {
			if e := x.Add(c); e != api.ErrNil {
				t.Errorf("Add %d: %d", c, e)
			}
			if told := x.All(); len(told) != 0 {
				t.Errorf("All: %v", told)
			}
			wantLast(t, x, 0, false)
			for _, from := range []int64{math.MinInt64, -1, 0, 1, math.MaxInt64} {
				for _, to := range []int64{math.MinInt64, -1, 0, 1, math.MaxInt64} {
					wantCount(t, x, from, to, 0)
				}
			}
			if y := x.Copy(); y != nil {
				t.Errorf("Copy: %v", y)
			}
		}
	}
}
