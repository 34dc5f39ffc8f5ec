package stamp

import (
	"math"
	"math/big"
	"math/rand"
	"testing"

	"remontoire/api"
)

const (
	most  int64 = math.MaxInt64
	least int64 = math.MinInt64
	full  int64 = 1 << 32
	half  int64 = 1 << 31
)

// seconds are those at which a stamp, an era or a pivot turns: round 0, round multiples of an era and of half a one, and round the bounds of int64; only those within int64.
func seconds() []int64 {
	out := []int64{2_524_953_600, -2_524_953_600, 3_692_217_600, 1 << 40, -(1 << 40)}
	near := func(bases ...int64) {
		for _, b := range bases {
			for step := int64(-3); step <= 3; step++ {
				if s := b + step; (s > b) == (step > 0) {
					out = append(out, s)
				}
			}
		}
	}
	near(0, full, -full, half, -half, 3*half, -3*half, 2*full, -2*full, 5*full, -5*full)
	near(least, least+half, least+full, least+3*half, least+2*full)
	near(most, most-half, most-full, most-3*half, most-2*full)
	return out
}

// fractions are those of a stamp at which its nanoseconds turn.
func fractions() []uint32 {
	return []uint32{0, 1, 2, 3, 4, 5, 8, 9, 1<<16 - 1, 1 << 16, 1<<31 - 1, 1 << 31, 1<<31 + 1, 1<<32 - 13, 1<<32 - 9, 1<<32 - 8, 1<<32 - 5, 1<<32 - 4, 1<<32 - 3, 1<<32 - 2, 1<<32 - 1}
}

// nanoseconds are those that are less than a second.
func nanoseconds() []int64 {
	return []int64{0, 1, 2, 3, 4, 5, 1000, 499_999_999, 500_000_000, 500_000_001, 999_999_996, 999_999_997, 999_999_998, 999_999_999}
}

// drawn are numbers of all lengths, the same ones each time.
func drawn(count int) []int64 {
	r := rand.New(rand.NewSource(2))
	out := make([]int64, count)
	for i := range out {
		out[i] = int64(r.Uint64()) >> uint(r.Intn(64))
	}
	return out
}

// over is a times b over d, rounded down or up, by numbers without a bound; d is above 0.
func over(a, b, d int64, up bool) *big.Int {
	x := new(big.Int).Mul(big.NewInt(a), big.NewInt(b))
	q, rest := new(big.Int).DivMod(x, big.NewInt(d), new(big.Int)) // of a divisor above 0 it is rounded down
	if up && rest.Sign() != 0 {
		q.Add(q, big.NewInt(1))
	}
	return q
}

// modEra is a second modulo an era, 0 or above.
func modEra(sec int64) uint64 {
	return new(big.Int).Mod(big.NewInt(sec), big.NewInt(full)).Uint64()
}

// meant is the second of a stamp by looking through all those about the pivot, the earliest first.
func meant(low uint64, pivot int64) int64 {
	p := big.NewInt(pivot)
	first := new(big.Int).Sub(p, new(big.Int).Mod(p, big.NewInt(full)))
	first.Add(first, new(big.Int).SetUint64(low))
	var best, bestOff *big.Int
	for k := int64(-3); k <= 3; k++ {
		s := new(big.Int).Add(first, big.NewInt(k*full))
		if !s.IsInt64() {
			continue
		}
		off := new(big.Int).Abs(new(big.Int).Sub(s, p))
		if best == nil || off.Cmp(bestOff) < 0 {
			best, bestOff = s, off
		}
	}
	return best.Int64()
}

func wantOf(t *testing.T, sec, ns int64, want uint64, err api.Errno) {
	t.Helper()
	if got, e := Of(sec, ns); got != want || e != err {
		t.Errorf("Of %d, %d: got %#x, %d, want %#x, %d", sec, ns, got, e, want, err)
	}
}

func wantSplit(t *testing.T, stamp uint64, pivot, sec, ns int64) {
	t.Helper()
	if s, n := Split(stamp, pivot); s != sec || n != ns {
		t.Errorf("Split of %#x, pivot %d: got %d, %d, want %d, %d", stamp, pivot, s, n, sec, ns)
	}
}

func same(t *testing.T, name string, of, got, want int64) {
	t.Helper()
	if got != want {
		t.Errorf("%s of %d: got %d, want %d", name, of, got, want)
	}
}

// P2.1
func TestOfKnown(t *testing.T) {
	for _, x := range []struct {
		sec, ns int64
		want    uint64
	}{
		{0, 0, 0}, {1, 0, 1 << 32}, {1, 500_000_000, 1<<32 + 1<<31}, {0, 250_000_000, 1 << 30}, {2_524_953_600, 0, 2_524_953_600 << 32},
		// A nanosecond is 4.29 units, all but a nanosecond of a second 4.29 less than all of them.
		{0, 1, 4}, {0, 2, 8}, {0, 3, 12}, {0, 4, 17}, {0, 999_999_999, 1<<32 - 5}, {1, 999_999_999, 2<<32 - 5}, {7, 333_333_333, 7<<32 + 1_431_655_763},
		// Eras are not told.
		{full - 1, 0, (1<<32 - 1) << 32}, {full, 0, 0}, {full + 1, 0, 1 << 32}, {5 * full, 1, 4}, {full - 1, 999_999_999, math.MaxUint64 - 4},
		{-1, 0, (1<<32 - 1) << 32}, {-1, 500_000_000, (1<<32-1)<<32 + 1<<31}, {-full, 0, 0}, {-full - 1, 0, (1<<32 - 1) << 32}, {-full + 1, 0, 1 << 32},
		{most, 0, (1<<32 - 1) << 32}, {most, 999_999_999, math.MaxUint64 - 4}, {least, 0, 0}, {least, 999_999_999, 1<<32 - 5}, {least + 1, 0, 1 << 32},
	} {
		wantOf(t, x.sec, x.ns, x.want, api.OK)
	}
}

// P2.1, P1: what is no nanosecond of a second is refused, and nothing else is told.
func TestOfRefuses(t *testing.T) {
	for _, ns := range []int64{-1, -2, -999_999_999, -1_000_000_000, least, least + 1, 1_000_000_000, 1_000_000_001, 1 << 32, most - 1, most} {
		for _, sec := range seconds() {
			wantOf(t, sec, ns, 0, api.ErrArg)
		}
	}
}

// P2.1
func TestOfAgainstUnbounded(t *testing.T) {
	ask := func(sec, ns int64) {
		want := modEra(sec)*(1<<32) + over(ns, full, 1_000_000_000, false).Uint64()
		wantOf(t, sec, ns, want, api.OK)
	}
	for _, sec := range seconds() {
		for _, ns := range nanoseconds() {
			ask(sec, ns)
		}
	}
	r := rand.New(rand.NewSource(3))
	for _, sec := range drawn(20_000) {
		ask(sec, r.Int63n(1_000_000_000))
	}
}

// P2.1
func TestSplitKnown(t *testing.T) {
	for _, x := range []struct {
		stamp          uint64
		pivot, sec, ns int64
	}{
		{1<<32 + 1<<31, full, full + 1, 500_000_000}, {1<<32 + 1<<31, 0, 1, 500_000_000}, {0, 0, 0, 0}, {0, 100, 0, 0},
		// A fraction is rounded up, and held within its second.
		{1, 0, 0, 1}, {4, 0, 0, 1}, {5, 0, 0, 2}, {1<<32 - 5, 0, 0, 999_999_999}, {1<<32 - 4, 0, 0, 999_999_999}, {1<<32 - 1, 0, 0, 999_999_999}, {1<<32 - 9, 0, 0, 999_999_998}, {math.MaxUint64, 0, -1, 999_999_999},
		// Of two as near the earlier one is meant, and a second nearer the other one.
		{0, half, 0, 0}, {0, half + 1, full, 0}, {0, half - 1, 0, 0}, {0, -half, -full, 0}, {0, -half + 1, 0, 0}, {0, -half - 1, -full, 0},
		{uint64(half) << 32, 0, -half, 0}, {uint64(half) << 32, 1, half, 0}, {uint64(half) << 32, -1, -half, 0}, {uint64(half) << 32, full, half, 0},
		// A fraction brings none nearer.
		{1<<32 - 1, -half, -full, 999_999_999}, {1<<32 - 1, half, 0, 999_999_999},
		// The next era's first, this one's last.
		{0, full - 1, full, 0}, {(1<<32 - 1) << 32, full, full - 1, 0}, {(1<<32 - 1) << 32, 0, -1, 0}, {7 << 32, -3 * full, -3*full + 7, 0},
	} {
		wantSplit(t, x.stamp, x.pivot, x.sec, x.ns)
	}
}

// P2.1: none beyond int64 is meant, be it the nearer one or as near and the earlier one.
func TestSplitRoundTheBounds(t *testing.T) {
	for _, x := range []struct {
		low        uint64
		pivot, sec int64
	}{
		{1<<32 - 1, most, most}, {0, most, most - full + 1}, {1, most, most - full + 2}, {uint64(half) - 2, most, most - half - 1}, {uint64(half) - 1, most, most - half}, {uint64(half), most, most - half + 1},
		{1<<32 - 1, most - 1, most}, {0, most - 1, most - full + 1}, {1<<32 - 1, most - half + 1, most}, {1<<32 - 1, most - half, most - full}, {0, most - half + 1, most - full + 1}, {0, most - half, most - full + 1},
		{0, least, least}, {1<<32 - 1, least, least + full - 1}, {1<<32 - 2, least, least + full - 2}, {uint64(half), least, least + half}, {uint64(half) - 1, least, least + half - 1}, {uint64(half) + 1, least, least + half + 1},
		{0, least + 1, least}, {1<<32 - 1, least + 1, least + full - 1}, {uint64(half) + 1, least + 1, least + half + 1}, {0, least + half, least}, {0, least + half + 1, least + full}, {1<<32 - 1, least + half - 1, least + full - 1}, {1<<32 - 1, least + half, least + full - 1},
	} {
		wantSplit(t, x.low<<32, x.pivot, x.sec, 0)
	}
}

// P2.1
func TestSplitAgainstUnbounded(t *testing.T) {
	ask := func(low uint64, fraction uint32, pivot int64) {
		ns := min(over(int64(fraction), 1_000_000_000, full, true).Int64(), 999_999_999)
		wantSplit(t, low<<32|uint64(fraction), pivot, meant(low, pivot), ns)
	}
	for _, pivot := range seconds() {
		for _, sec := range seconds() {
			ask(modEra(sec), uint32(modEra(pivot)), pivot)
		}
		for _, fraction := range fractions() {
			ask(1, fraction, pivot)
		}
	}
	r := rand.New(rand.NewSource(4))
	for _, pivot := range drawn(20_000) {
		ask(uint64(r.Uint32()), r.Uint32(), pivot)
	}
}

// P2.1: with a pivot within half an era Split tells what Of was told.
func TestSplitOfOf(t *testing.T) {
	ask := func(sec, ns, step int64) {
		pivot := sec + step
		if (pivot > sec) != (step > 0) {
			return // no pivot is beyond int64
		}
		stamp, err := Of(sec, ns)
		if err != api.OK {
			t.Fatalf("Of %d, %d: %d", sec, ns, err)
		}
		wantSplit(t, stamp, pivot, sec, ns)
	}
	for _, sec := range seconds() {
		for _, ns := range nanoseconds() {
			for _, step := range []int64{1 - half, -1_000, -1, 0, 1, 1_000, half - 1, half} {
				ask(sec, ns, step)
			}
		}
	}
	r := rand.New(rand.NewSource(5))
	for _, sec := range drawn(20_000) {
		ask(sec, r.Int63n(1_000_000_000), r.Int63n(full)-half+1)
	}
}

// P2.1
func TestEra(t *testing.T) {
	for _, x := range [][2]int64{
		{0, 0}, {1, 0}, {full - 1, 0}, {full, 1}, {full + 1, 1}, {2*full - 1, 1}, {2 * full, 2}, {2_524_953_600, 0}, {-1, -1}, {-full + 1, -1}, {-full, -1}, {-full - 1, -2}, {-2 * full, -2}, {-2*full - 1, -3},
		{most, half - 1}, {most - full, half - 2}, {least, -half}, {least + full - 1, -half}, {least + full, -half + 1},
	} {
		same(t, "Era", x[0], Era(x[0]), x[1])
	}
	for _, sec := range append(seconds(), drawn(5_000)...) {
		same(t, "Era", sec, Era(sec), over(sec, 1, full, false).Int64())
	}
}

// lastShort is the last number of nanoseconds that is not held: 2^32 - 1 units are a fifth of a nanosecond more, so that one more, rounded up, is 2^32 units.
const lastShort = 65_535_999_984_741

// P2.2
func TestShortKnown(t *testing.T) {
	for _, x := range [][2]int64{
		{0, 0}, {-1, 0}, {-1_000_000_000, 0}, {-15_259, 0}, {least, 0}, {least + 1, 0},
		// A unit is 15258.79 nanoseconds.
		{1, 1}, {15_258, 1}, {15_259, 2}, {30_517, 2}, {30_518, 3}, {500_000_000, 32_768}, {999_999_999, 65_536}, {1_000_000_000, 65_536}, {1_000_000_001, 65_537}, {2_000_000_000, 131_072},
		{lastShort - 15_260, full - 2}, {lastShort - 15_259, full - 2}, {lastShort - 15_258, full - 1}, {lastShort - 1, full - 1}, {lastShort, full - 1}, {lastShort + 1, full - 1}, {lastShort + 15_258, full - 1}, {lastShort + 15_259, full - 1}, {lastShort + 15_260, full - 1},
		{65_536_000_000_000, full - 1}, {65_536_000_000_001, full - 1}, {131_072_000_000_000, full - 1}, {1 << 62, full - 1}, {most - 1, full - 1}, {most, full - 1},
	} {
		same(t, "Short", x[0], int64(Short(x[0])), x[1])
	}
}

// P2.2
func TestShortNsKnown(t *testing.T) {
	for _, x := range [][2]int64{
		{0, 0}, {1, 15_258}, {2, 30_517}, {3, 45_776}, {65_535, 999_984_741}, {65_536, 1_000_000_000}, {65_537, 1_000_015_258}, {half, 32_768_000_000_000}, {full - 2, 65_535_999_969_482}, {full - 1, lastShort},
	} {
		same(t, "ShortNs", x[0], ShortNs(uint32(x[0])), x[1])
	}
}

// P2.2
func TestShortAgainstUnbounded(t *testing.T) {
	top := big.NewInt(full - 1)
	ask := func(ns int64) {
		want := over(ns, 65_536, 1_000_000_000, true)
		if want.Sign() < 0 {
			want.SetInt64(0)
		}
		if want.Cmp(top) > 0 {
			want.Set(top)
		}
		same(t, "Short", ns, int64(Short(ns)), want.Int64())
	}
	for _, ns := range append(seconds(), drawn(20_000)...) {
		ask(ns)
	}
	for step := int64(-40_000); step <= 40_000; step++ {
		ask(step)
		ask(lastShort + step)
	}
	for _, x := range drawn(20_000) {
		short := uint32(x)
		same(t, "ShortNs", int64(short), ShortNs(short), over(int64(short), 1_000_000_000, 65_536, false).Int64())
	}
}

// P2.2: the short format tells no less than was meant, and less than a unit more; and its own nanoseconds are told by itself.
func TestShortFollows(t *testing.T) {
	for _, x := range drawn(20_000) {
		short := uint32(x)
		same(t, "Short of ShortNs", int64(short), int64(Short(ShortNs(short))), int64(short))
		if ns := x & (1<<45 - 1); ns <= lastShort {
			told := new(big.Int).Mul(big.NewInt(int64(Short(ns))), big.NewInt(1_000_000_000))
			more := told.Sub(told, new(big.Int).Mul(big.NewInt(ns), big.NewInt(65_536)))
			if more.Sign() < 0 || more.Cmp(big.NewInt(1_000_000_000)) >= 0 {
				t.Errorf("Short of %d is %d, off by %v billionths of a unit", ns, Short(ns), more)
			}
		}
	}
}
