package sat

import (
	"math"
	"math/big"
	"math/rand"
	"testing"
)

const (
	most  int64 = math.MaxInt64
	least int64 = math.MinInt64
)

// edges are numbers at which a sum, a product or a quotient turns: round 0, round roots of 2^63, round powers of 2 and the greatest and the least.
func edges() []int64 {
	out := []int64{0, 1, -1, 2, -2, 3, -3, 7, -7, 10, -10, 1_000_000_000, -1_000_000_000, 604_800}
	for _, n := range []uint{31, 32, 61, 62} {
		p := int64(1) << n
		out = append(out, p-1, p, p+1, -p-1, -p, -p+1)
	}
	root := int64(3_037_000_499) // the greatest whose square is an int64
	out = append(out, root, root+1, -root, -root-1)
	return append(out, most, most-1, most-2, most/2, most/3, least, least+1, least+2, least/2, least/3)
}

// drawn are numbers of all lengths, the same ones each time.
func drawn(count int) []int64 {
	r := rand.New(rand.NewSource(1))
	out := make([]int64, count)
	for i := range out {
		out[i] = int64(r.Uint64()) >> uint(r.Intn(64))
	}
	return out
}

// held is the nearest int64, by numbers without a bound.
func held(x *big.Int) int64 {
	switch {
	case x.Cmp(big.NewInt(most)) > 0:
		return most
	case x.Cmp(big.NewInt(least)) < 0:
		return least
	}
	return x.Int64()
}

// quotient is a times b over d, rounded down or up, held; d is above 0.
func quotient(a, b, d int64, up bool) int64 {
	x := new(big.Int).Mul(big.NewInt(a), big.NewInt(b))
	q, rest := new(big.Int).DivMod(x, big.NewInt(d), new(big.Int)) // of a divisor above 0 it is rounded down
	if up && rest.Sign() != 0 {
		q.Add(q, big.NewInt(1))
	}
	return held(q)
}

func same(t *testing.T, name string, got, want int64, of ...int64) {
	t.Helper()
	if got != want {
		t.Errorf("%s of %v: got %d, want %d", name, of, got, want)
	}
}

// P1.1
func TestAddKnown(t *testing.T) {
	for _, x := range [][3]int64{
		{0, 0, 0}, {2, 3, 5}, {-5, 3, -2}, {5, -3, 2}, {-5, -3, -8},
		{most, 1, most}, {1, most, most}, {most, most, most}, {most - 1, 1, most}, {most - 2, 1, most - 1}, {most, 0, most}, {0, most, most},
		{least, -1, least}, {-1, least, least}, {least, least, least}, {least + 1, -1, least}, {least + 2, -1, least + 1}, {least, 0, least}, {0, least, least},
		{most, least, -1}, {least, most, -1},
	} {
		same(t, "Add", Add(x[0], x[1]), x[2], x[0], x[1])
	}
}

// P1.1
func TestSubKnown(t *testing.T) {
	for _, x := range [][3]int64{
		{0, 0, 0}, {5, 3, 2}, {3, 5, -2}, {-5, -3, -2}, {-5, 3, -8},
		{most, -1, most}, {most - 1, -1, most}, {most - 2, -1, most - 1}, {most, least, most}, {most, most, 0}, {most, 0, most}, {0, most, -most},
		{least, 1, least}, {least + 1, 1, least}, {least + 2, 1, least + 1}, {least, most, least}, {least, least, 0}, {least, 0, least},
		{0, least, most}, {-1, least, most}, {-2, least, most - 1}, {1, least, most}, {-1, most, least}, {-2, most, least},
	} {
		same(t, "Sub", Sub(x[0], x[1]), x[2], x[0], x[1])
	}
}

// P1.1
func TestMulKnown(t *testing.T) {
	for _, x := range [][3]int64{
		{0, 0, 0}, {3, 4, 12}, {-3, 4, -12}, {3, -4, -12}, {-3, -4, 12},
		{least, -1, most}, {-1, least, most}, {least, 1, least}, {1, least, least}, {least, 0, 0}, {0, least, 0},
		{most, -1, -most}, {most, 1, most}, {most, 2, most}, {most, -2, least}, {most, 0, 0},
		{most, most, most}, {most, least, least}, {least, most, least}, {least, least, most},
		{1 << 62, 2, most}, {1 << 62, -2, least}, {-(1 << 62), 2, least}, {1 << 61, 2, 1 << 62},
		{1 << 32, 1 << 32, most}, {1 << 32, -(1 << 32), least}, {1 << 40, 1 << 40, most}, {1 << 32, 1 << 30, 1 << 62},
		{3_037_000_499, 3_037_000_499, 9_223_372_030_926_249_001}, {3_037_000_500, 3_037_000_500, most}, {-3_037_000_500, 3_037_000_500, least},
	} {
		same(t, "Mul", Mul(x[0], x[1]), x[2], x[0], x[1])
	}
}

// P1.1
func TestNegAbsKnown(t *testing.T) {
	for _, x := range [][3]int64{
		{0, 0, 0}, {5, -5, 5}, {-5, 5, 5}, {1, -1, 1}, {-1, 1, 1},
		{most, -most, most}, {least, most, most}, {least + 1, most, most}, {least + 2, most - 1, most - 1},
	} {
		same(t, "Neg", Neg(x[0]), x[1], x[0])
		same(t, "Abs", Abs(x[0]), x[2], x[0])
	}
}

// P1.1
func TestSumsAgainstUnbounded(t *testing.T) {
	all := append(edges(), drawn(200)...)
	for _, a := range all {
		x := big.NewInt(a)
		same(t, "Neg", Neg(a), held(new(big.Int).Neg(x)), a)
		same(t, "Abs", Abs(a), held(new(big.Int).Abs(x)), a)
		for _, b := range all {
			y := big.NewInt(b)
			same(t, "Add", Add(a, b), held(new(big.Int).Add(x, y)), a, b)
			same(t, "Sub", Sub(a, b), held(new(big.Int).Sub(x, y)), a, b)
			same(t, "Mul", Mul(a, b), held(new(big.Int).Mul(x, y)), a, b)
		}
	}
}

// P1.2
func TestDownUpKnown(t *testing.T) {
	for _, x := range []struct{ a, b, d, down, up int64 }{
		{7, 1, 2, 3, 4}, {-7, 1, 2, -4, -3}, {7, -1, 2, -4, -3}, {-7, -1, 2, 3, 4}, {6, 1, 2, 3, 3}, {-6, 1, 2, -3, -3},
		{0, 5, 3, 0, 0}, {5, 0, 3, 0, 0}, {1, 1, 3, 0, 1}, {-1, 1, 3, -1, 0}, {1, 1, most, 0, 1}, {-1, 1, most, -1, 0},
		{1 << 62, 6, 3, most, most}, {1 << 62, -6, 3, least, least}, {1 << 62, 4, 3, (1 << 64) / 3, (1<<64)/3 + 1},
		{most, most, most, most, most}, {most, least, most, least, least}, {least, least, most, most, most}, {least, most, most, least, least},
		{most, most, 1, most, most}, {least, least, 1, most, most}, {least, most, 1, least, least},
		{least, 1, 1, least, least}, {least, -1, 1, most, most}, {most, 1, 1, most, most}, {most, -1, 1, -most, -most},
		{least, 2, 4, least / 2, least / 2}, {most, 3, 4, 6_917_529_027_641_081_855, 6_917_529_027_641_081_856}, {most, 2, 4, most / 2, most/2 + 1},
		{1 << 62, 1 << 62, 1 << 61, most, most}, {1 << 62, 1 << 62, 1 << 62, 1 << 62, 1 << 62}, {-(1 << 62), 1 << 62, 1 << 61, least, least}, {-(1 << 62), 1 << 62, 1 << 62, -(1 << 62), -(1 << 62)},
		{1<<62 - 1, 4, 2, most - 1, most - 1}, {most, 5, 5, most, most}, {-(1<<32 + 2), 1<<32 - 2, 2, least + 2, least + 2},
		// 2^64 - 1 over 2 is most and a half, which rounded down is not held and rounded up is; with the other sign neither is.
		{1<<32 + 1, 1<<32 - 1, 2, most, most}, {-(1<<32 + 1), 1<<32 - 1, 2, least, -most},
		// 2^64 + 1 over 2, with the other sign, is a half below least: rounded up it is not held, rounded down it is.
		{-274_177, 67_280_421_310_721, 2, least, least}, {274_177, 67_280_421_310_721, 2, most, most},
	} {
		same(t, "Down", Down(x.a, x.b, x.d), x.down, x.a, x.b, x.d)
		same(t, "Up", Up(x.a, x.b, x.d), x.up, x.a, x.b, x.d)
	}
}

// P1.2
func TestDownUpOfNoDivisor(t *testing.T) {
	for _, d := range []int64{0, -1, -2, -most, least} {
		for _, a := range edges() {
			for _, b := range edges() {
				same(t, "Down", Down(a, b, d), 0, a, b, d)
				same(t, "Up", Up(a, b, d), 0, a, b, d)
			}
		}
	}
}

// P1.2
func TestDownUpAgainstUnbounded(t *testing.T) {
	ask := func(a, b, d int64) {
		same(t, "Down", Down(a, b, d), quotient(a, b, d, false), a, b, d)
		same(t, "Up", Up(a, b, d), quotient(a, b, d, true), a, b, d)
	}
	for _, d := range edges() {
		if d <= 0 {
			continue
		}
		for _, a := range edges() {
			for _, b := range edges() {
				ask(a, b, d)
			}
		}
	}
	x := drawn(60_000)
	for i := 0; i+2 < len(x); i += 3 {
		if d := x[i+2]; d > 0 {
			ask(x[i], x[i+1], d)
		}
	}
}

// P1.2: quotients right at the bounds, where the one that is rounded down may be held and the one that is rounded up not.
func TestDownUpRoundTheBounds(t *testing.T) {
	for _, bound := range []int64{most, least} {
		for _, d := range []int64{2, 3, 5, 10, 1_000_000_007, 1 << 32, most - 1, most} {
			for _, step := range []int64{-2, -1, 0, 1, 2} {
				for _, m := range []int64{d - 1, d, Add(d, 1)} {
					a := Add(bound, step)
					same(t, "Down", Down(a, m, d), quotient(a, m, d, false), a, m, d)
					same(t, "Up", Up(a, m, d), quotient(a, m, d, true), a, m, d)
				}
			}
		}
	}
}

// P1.3
func TestLeftKnown(t *testing.T) {
	for _, x := range []struct {
		a    int64
		n    uint
		want int64
	}{
		{5, 0, 5}, {-5, 0, -5}, {most, 0, most}, {least, 0, least}, {3, 4, 48}, {-3, 4, -48},
		{1, 62, 1 << 62}, {-1, 62, -(1 << 62)}, {2, 62, most}, {-2, 62, least}, {-3, 62, least}, {most >> 1, 1, most - 1}, {most>>1 + 1, 1, most}, {least >> 1, 1, least}, {least>>1 - 1, 1, least},
		{1, 63, most}, {-1, 63, least}, {2, 63, most}, {-2, 63, least}, {0, 63, 0}, {most, 63, most}, {least, 63, least},
		{1, 64, most}, {-1, 64, least}, {0, 64, 0}, {1, 70, most}, {-1, 70, least}, {least, 64, least}, {most, 64, most},
		{0, 99, 0}, {1 << 32, 1 << 31, most}, {0, math.MaxUint, 0}, {1, math.MaxUint, most}, {-1, math.MaxUint, least},
	} {
		same(t, "Left", Left(x.a, x.n), x.want, x.a, int64(x.n))
	}
}

// P1.3
func TestRightKnown(t *testing.T) {
	for _, x := range []struct {
		a    int64
		n    uint
		want int64
	}{
		{5, 0, 5}, {-5, 0, -5}, {least, 0, least}, {most, 0, most}, {5, 1, 2}, {-5, 1, -3}, {-4, 1, -2}, {-1, 1, -1}, {1, 1, 0},
		{most, 62, 1}, {most, 63, 0}, {least, 62, -2}, {least, 63, -1}, {-1, 63, -1},
		{most, 64, 0}, {least, 64, -1}, {0, 64, 0}, {-1, 70, -1}, {1, 70, 0}, {most, math.MaxUint, 0}, {least, math.MaxUint, -1}, {0, math.MaxUint, 0},
	} {
		same(t, "Right", Right(x.a, x.n), x.want, x.a, int64(x.n))
	}
}

// P1.3
func TestShiftsAgainstUnbounded(t *testing.T) {
	for _, a := range append(edges(), drawn(500)...) {
		for n := range uint(130) {
			same(t, "Left", Left(a, n), held(new(big.Int).Lsh(big.NewInt(a), n)), a, int64(n))
			same(t, "Right", Right(a, n), held(new(big.Int).Rsh(big.NewInt(a), n)), a, int64(n)) // Rsh rounds down
		}
	}
}

// P1.3
func TestClamp(t *testing.T) {
	for _, x := range [][4]int64{
		{2, 1, 3, 2}, {1, 1, 3, 1}, {3, 1, 3, 3}, {0, 1, 3, 1}, {4, 1, 3, 3}, {-5, 1, 3, 1}, {5, 1, 3, 3}, {7, 4, 4, 4}, {1, 4, 4, 4},
		{least, least, most, least}, {most, least, most, most}, {0, least, most, 0}, {least, 0, 0, 0}, {most, 0, 0, 0}, {least, least + 1, 0, least + 1}, {most, 0, most - 1, most - 1},
		// A least bound above the greatest: that is asked first.
		{2, 3, 1, 3}, {0, 3, 1, 3}, {3, 3, 1, 1}, {5, 3, 1, 1}, {0, most, least, most}, {most, most, least, least}, {least, most, least, most},
	} {
		same(t, "Clamp", Clamp(x[0], x[1], x[2]), x[3], x[0], x[1], x[2])
	}
}
