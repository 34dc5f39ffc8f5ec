package edge

import (
	"math"
	"math/rand"
	"testing"

	"remontoire/api"
)

// P16.2: All tells what is kept, the oldest one first, in memory of its own: it may be written over and appended to.
func TestAllIsItsOwn(t *testing.T) {
	for _, n := range sizes() {
		x, m := with(t, rising(n)...)
		first, second := x.All(), x.All()
		for i := range first {
			first[i] = -5
		}
		_ = append(first[:0], make([]int64, cap(first))...)
		wantLike(t, x, m)
		for i, c := range second {
			if c != m.kept()[i] {
				t.Fatalf("the second All is %v", second)
			}
		}
		// What was told stays as it was, whatever comes then.
		for range 20 {
			last, _ := x.Last()
			wantAdd(t, x, m, last+7)
		}
		wantLike(t, x, m)
		for i, c := range second {
			if want := rising(n)[max(0, n-8)+i]; c != want {
				t.Fatalf("%v behind further edges: at %d, want %d", second, i, want)
			}
		}
	}
}

// P16.2: Last of none, of one, of 0, and of those that are gone round.
func TestLast(t *testing.T) {
	x := New()
	wantLast(t, x, 0, false)
	x.Add(-4)
	wantLast(t, x, 0, false)
	x.Add(0)
	wantLast(t, x, 0, true)
	for i := range int64(40) {
		x.Add(i * i)
		wantLast(t, x, i*i, true)
		x.Add(i*i - 1)
		wantLast(t, x, i*i, true)
	}
	x.Add(math.MaxInt64)
	wantLast(t, x, math.MaxInt64, true)
}

// P16.2: both ends of a range are in; from above to there are none.
func TestCount(t *testing.T) {
	// 1, 2 and 3 are gone.
	x, _ := with(t, 1, 2, 3, 20, 20, 30, 40, 40, 40, 50, 60)
	for _, s := range []struct {
		from, to int64
		want     int
	}{
		{0, 3, 0}, {1, 1, 0}, {0, 19, 0}, {0, 20, 2}, {20, 20, 2}, {19, 20, 2}, {20, 21, 2}, {21, 29, 0}, {19, 19, 0}, {21, 21, 0},
		{20, 30, 3}, {21, 30, 1}, {20, 29, 2}, {20, 40, 6}, {30, 40, 4}, {31, 39, 0}, {40, 40, 3}, {31, 40, 3}, {40, 49, 3}, {41, 49, 0},
		{50, 60, 2}, {51, 60, 1}, {50, 59, 1}, {60, 60, 1}, {60, 61, 1}, {61, 61, 0}, {61, math.MaxInt64, 0}, {60, math.MaxInt64, 1},
		{20, 60, 8}, {21, 60, 6}, {20, 59, 7}, {21, 59, 5}, {0, 100, 8}, {-1, 60, 8}, {-100, -1, 0}, {-1, 19, 0},
		{math.MinInt64, math.MaxInt64, 8}, {math.MinInt64, 20, 2}, {math.MinInt64, 19, 0}, {math.MinInt64, math.MinInt64, 0}, {math.MaxInt64, math.MaxInt64, 0},
		{60, 20, 0}, {30, 20, 0}, {41, 40, 0}, {40, 39, 0}, {20, 19, 0}, {21, 20, 0}, {math.MaxInt64, math.MinInt64, 0}, {0, -1, 0}, {60, -60, 0},
	} {
		wantCount(t, x, s.from, s.to, s.want)
	}
	y, _ := with(t, 0, 0, math.MaxInt64-1, math.MaxInt64)
	for _, s := range []struct {
		from, to int64
		want     int
	}{
		{0, 0, 2}, {-1, 0, 2}, {-1, -1, 0}, {math.MinInt64, 0, 2}, {math.MinInt64, -1, 0}, {0, math.MaxInt64, 4}, {0, math.MaxInt64 - 1, 3}, {1, math.MaxInt64 - 1, 1},
		{math.MaxInt64, math.MaxInt64, 1}, {math.MaxInt64 - 1, math.MaxInt64, 2}, {math.MaxInt64 - 1, math.MaxInt64 - 1, 1}, {1, math.MaxInt64 - 2, 0}, {math.MaxInt64, 0, 0}, {math.MaxInt64, math.MaxInt64 - 1, 0},
	} {
		wantCount(t, y, s.from, s.to, s.want)
	}
	wantCount(t, New(), 0, 0, 0)
	wantCount(t, New(), math.MinInt64, math.MaxInt64, 0)
}

// P16.2: asking changes nothing.
func TestAskingChangesNothing(t *testing.T) {
	for _, n := range sizes() {
		x, m := with(t, rising(n)...)
		ahead := *x
		for range 3 {
			wantLike(t, x, m)
			x.Copy()
		}
		if *x != ahead {
			t.Fatalf("%v, it was %v", *x, ahead)
		}
	}
}

// P16.2: at every number of edges a copy is just like what it was copied of, and what comes to one of them does not come to the other one.
func TestCopyGoesItsOwnWay(t *testing.T) {
	for _, n := range sizes() {
		for more := range 20 {
			x, m := with(t, rising(n)...)
			y, k := x.Copy(), m.copy()
			if y == nil || y == x {
				t.Fatalf("Copy: %p of %p", y, x)
			}
			wantLike(t, y, k)
			last, _ := x.Last()
			for i := range more {
				wantAdd(t, y, k, last+1+int64(i))
			}
			wantLike(t, x, m)
			wantLike(t, y, k)
			for i := range more {
				wantAdd(t, x, m, last+5*int64(i))
				wantLike(t, y, k)
			}
			wantLike(t, x, m)
		}
	}
}

// P16.2: copies at each step of drawn runs, and copies of copies.
func TestCopyInDrawnRuns(t *testing.T) {
	r := rand.New(rand.NewSource(162))
	for range 100 {
		x, m := New(), &model{}
		for range 40 {
			y, k := x.Copy(), m.copy()
			for range r.Intn(12) {
				wantAdd(t, y, k, drawnEdge(r, k))
			}
			wantLike(t, x, m)
			for range 1 + r.Intn(3) {
				wantAdd(t, x, m, drawnEdge(r, m))
			}
			wantLike(t, y, k)
			wantLike(t, x, m)
			if r.Intn(2) == 0 {
				x, m = y, k
			}
		}
	}
}

// P16.2: a copy keeps what a log refuses.
func TestCopyRefuses(t *testing.T) {
	x, _ := with(t, 5, 9)
	y := x.Copy()
	if e := y.Add(8); e != api.ErrArg {
		t.Error(e)
	}
	if e := x.Add(20); e != api.OK {
		t.Error(e)
	}
	if e := y.Add(9); e != api.OK {
		t.Error(e)
	}
	if e := x.Add(19); e != api.ErrArg {
		t.Error(e)
	}
	wantAll(t, x, 5, 9, 20)
	wantAll(t, y, 5, 9, 9)
}
