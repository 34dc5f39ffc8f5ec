package ring

import (
	"bytes"
	"math"
	"math/rand"
	"testing"

	"remontoire/api"
)

const (
	most  = math.MaxInt
	least = math.MinInt
)

// model is what a ring should hold and should have lost, told byte by byte.
type model struct {
	size  int
	bytes []byte
	lost  int64
}

func (m *model) put(b []byte) int {
	lost := 0
	for _, x := range b {
		m.bytes = append(m.bytes, x)
		if len(m.bytes) > m.size {
			m.bytes = m.bytes[1:]
			lost++
		}
	}
	m.lost += int64(lost)
	return lost
}

func (m *model) drop(n int) int {
	went := 0
	for went < n && len(m.bytes) > 0 {
		m.bytes = m.bytes[1:]
		went++
	}
	return went
}

func (m *model) copy() *model {
	return &model{size: m.size, bytes: bytes.Clone(m.bytes), lost: m.lost}
}

// made is a ring of a size that may be.
func made(t *testing.T, size int) *Ring {
	t.Helper()
	r, e := New(size)
	if r == nil || e != api.OK {
		t.Fatalf("New of %d: %v, %d", size, r, e)
	}
	return r
}

// counted are so many bytes, from one on, each one more than the one ahead of it.
func counted(from, n int) []byte {
	out := make([]byte, n)
	for i := range out {
		out[i] = byte(from + i)
	}
	return out
}

func drawn(r *rand.Rand, n int) []byte {
	out := make([]byte, n)
	r.Read(out)
	return out
}

// turned is a ring whose oldest byte stands anywhere, that holds so many, and its model; of it nothing was lost.
func turned(t *testing.T, r *rand.Rand, size, first, held int) (*Ring, *model) {
	t.Helper()
	out, m := made(t, size), &model{size: size}
	wantPut(t, out, m, drawn(r, first))
	wantDrop(t, out, m, first)
	wantPut(t, out, m, drawn(r, held))
	if m.lost != 0 || len(m.bytes) != held {
		t.Fatalf("turned by %d: %d held, %d lost", first, len(m.bytes), m.lost)
	}
	return out, m
}

func wantPut(t *testing.T, r *Ring, m *model, b []byte) {
	t.Helper()
	held, given := len(m.bytes), bytes.Clone(b)
	want := m.put(b)
	if got := r.Put(b); got != want {
		t.Fatalf("ring of %d that holds %d, Put of %d bytes: got %d, want %d", m.size, held, len(b), got, want)
	}
	if !bytes.Equal(b, given) {
		t.Fatalf("Put changed the %d bytes that were handed in", len(b))
	}
}

func wantDrop(t *testing.T, r *Ring, m *model, n int) {
	t.Helper()
	held := len(m.bytes)
	want := m.drop(n)
	if got := r.Drop(n); got != want {
		t.Fatalf("ring of %d that holds %d, Drop of %d: got %d, want %d", m.size, held, n, got, want)
	}
}

func wantAt(t *testing.T, r *Ring, i int, want byte, there bool) {
	t.Helper()
	if got, ok := r.At(i); got != want || ok != there {
		t.Fatalf("At of %d: got %d, %v, want %d, %v", i, got, ok, want, there)
	}
}

func wantPeek(t *testing.T, r *Ring, n int, want []byte) {
	t.Helper()
	if got := r.Peek(n); !bytes.Equal(got, want) {
		t.Fatalf("Peek of %d: got %v, want %v", n, got, want)
	}
}

func wantCounts(t *testing.T, r *Ring, held, size int, lost int64) {
	t.Helper()
	if r.Len() != held || r.Size() != size || r.Lost() != lost {
		t.Fatalf("got %d held, size %d, %d lost, want %d, %d, %d", r.Len(), r.Size(), r.Lost(), held, size, lost)
	}
}

// wantLike asks all that a ring tells, twice, as telling changes nothing.
func wantLike(t *testing.T, r *Ring, m *model) {
	t.Helper()
	for range 2 {
		held := len(m.bytes)
		wantCounts(t, r, held, m.size, m.lost)
		for i, x := range m.bytes {
			wantAt(t, r, i, x, true)
		}
		for _, i := range []int{least, least + 1, -m.size, -1, held, held + 1, m.size, m.size + 1, 2 * m.size, api.MaxRing, 1 << 32, most - 1, most} {
			if i < 0 || i >= held {
				wantAt(t, r, i, 0, false)
			}
		}
		for _, n := range []int{least, least + 1, -m.size, -2, -1, 0} {
			wantPeek(t, r, n, nil)
		}
		for _, n := range []int{1, 2, held / 2, held - 1, held, held + 1, m.size, m.size + 1, 2 * m.size, api.MaxRing, 1 << 32, most - 1, most} {
			wantPeek(t, r, n, m.bytes[:max(0, min(n, held))])
		}
	}
}

// P6.1
func TestNewOfAllSizes(t *testing.T) {
	for size := 64; size <= 4096; size++ {
		r, m := made(t, size), &model{size: size}
		wantLike(t, r, m)
		wantDrop(t, r, m, 1)
		wantPut(t, r, m, counted(size, size))
		wantCounts(t, r, size, size, 0)
		wantPut(t, r, m, []byte{7})
		wantCounts(t, r, size, size, 1)
		wantAt(t, r, 0, byte(size+1), true)
		wantAt(t, r, size-1, 7, true)
		wantPeek(t, r, size, m.bytes)
	}
}

// P6.1, P1
func TestNewRefuses(t *testing.T) {
	for _, size := range []int{least, least + 1, -4096, -64, -1, 0, 1, 32, 62, 63, 4097, 4098, 8192, 1 << 16, 1 << 32, 1<<32 + 64, most - 1, most} {
		if r, e := New(size); r != nil || e != api.ErrArg {
			t.Errorf("New of %d: got %v, %d", size, r, e)
		}
	}
}

// P6.1: rings are made apart from each other.
func TestNewIsAnotherOne(t *testing.T) {
	a, b := made(t, 64), made(t, 64)
	a.Put([]byte{1, 2, 3})
	b.Put([]byte{9})
	wantPeek(t, a, 64, []byte{1, 2, 3})
	wantPeek(t, b, 64, []byte{9})
}

// P6.1, P6.2: the chapter's examples.
func TestKnown(t *testing.T) {
	r := made(t, 64)
	if a, b := r.Put(counted(0, 60)), r.Put(counted(60, 10)); a != 0 || b != 6 {
		t.Errorf("Put: %d, %d", a, b)
	}
	wantPeek(t, r, 100, counted(6, 64))
	wantAt(t, r, 0, 6, true)
	wantAt(t, r, 63, 69, true)
	if a, b, c := r.Len(), r.Drop(100), r.Lost(); a != 64 || b != 64 || c != 6 {
		t.Errorf("Len, Drop, Lost: %d, %d, %d", a, b, c)
	}
	wantCounts(t, r, 0, 64, 6)
	if r.Put([]byte{1, 2, 3}) != 0 || r.Drop(1) != 1 {
		t.Error("behind the examples")
	}
	wantPeek(t, r, 2, []byte{2, 3})
}

// putLengths are how many bytes may be put where something turns.
func putLengths(size, held int) []int {
	room := size - held
	return []int{0, 1, 2, room - 1, room, room + 1, room + 2, size - 1, size, size + 1, size + 2, size + held - 1, size + held, size + held + 1, 2*size - 1, 2 * size, 2*size + 1, 3*size + 7, 100*size + 3}
}

// P6.1: one put at each edge, wherever the oldest byte stands.
func TestPutAtTheEdges(t *testing.T) {
	r := rand.New(rand.NewSource(1))
	for _, size := range []int{64, 65, 100} {
		for first := range size + 1 {
			for _, held := range []int{0, 1, 2, size / 2, size - 2, size - 1, size} {
				for _, n := range putLengths(size, held) {
					if n < 0 {
						continue
					}
					got, m := turned(t, r, size, first, held)
					wantPut(t, got, m, drawn(r, n))
					wantCounts(t, got, len(m.bytes), size, m.lost)
					wantPeek(t, got, size, m.bytes)
				}
			}
		}
	}
}

// P6.1: the same of the greatest ring, and of some that are near it.
func TestPutAtTheEdgesOfGreatOnes(t *testing.T) {
	r := rand.New(rand.NewSource(2))
	for _, size := range []int{1000, 4095, 4096} {
		for _, first := range []int{0, 1, size / 2, size - 1, size} {
			for _, held := range []int{0, 1, size / 2, size - 1, size} {
				for _, n := range putLengths(size, held) {
					if n < 0 {
						continue
					}
					got, m := turned(t, r, size, first, held)
					wantPut(t, got, m, drawn(r, n))
					wantCounts(t, got, len(m.bytes), size, m.lost)
					wantPeek(t, got, size, m.bytes)
				}
			}
		}
	}
}

// P6.1: no bytes change nothing.
func TestPutOfNothing(t *testing.T) {
	r := rand.New(rand.NewSource(3))
	for _, held := range []int{0, 1, 63, 64} {
		got, m := turned(t, r, 64, 10, held)
		wantPut(t, got, m, nil)
		wantPut(t, got, m, []byte{})
		wantLike(t, got, m)
	}
}

// P6.1: what is lost is counted by the call, and since the ring was made.
func TestLostIsCounted(t *testing.T) {
	r := made(t, 64)
	sum := int64(0)
	for i, x := range [][2]int{{64, 0}, {1, 1}, {0, 0}, {63, 63}, {64, 64}, {65, 65}, {640, 640}, {64_000, 64_000}, {1, 1}} {
		if got := r.Put(counted(i, x[0])); got != x[1] {
			t.Fatalf("put %d: got %d, want %d", i, got, x[1])
		}
		sum += int64(x[1])
		wantCounts(t, r, 64, 64, sum)
	}
}

// P6.2: bytes that are dropped are not lost; as many as were dropped find room.
func TestDroppedIsNotLost(t *testing.T) {
	r := made(t, 64)
	for i := range 1000 {
		if r.Put(counted(i, 40)) != 0 || r.Drop(30) != 30 || r.Drop(10) != 10 {
			t.Fatalf("round %d", i)
		}
		wantCounts(t, r, 0, 64, 0)
	}
	if r.Put(counted(0, 64)) != 0 || r.Drop(5) != 5 || r.Put(counted(64, 5)) != 0 || r.Put(counted(69, 1)) != 1 {
		t.Error("room behind a drop")
	}
	wantCounts(t, r, 64, 64, 1)
	wantPeek(t, r, 64, counted(6, 64))
}

// P6.1, 'What follows': behind puts alone it holds the last bytes that were put.
func TestPutsAlone(t *testing.T) {
	r := rand.New(rand.NewSource(4))
	for _, size := range []int{64, 67, 256, 4096} {
		got, all := made(t, size), []byte{}
		for range 400 {
			b := drawn(r, r.Intn(size/8+2))
			all = append(all, b...)
			got.Put(b)
			held := min(len(all), size)
			wantCounts(t, got, held, size, int64(len(all)-held))
			wantPeek(t, got, most, all[len(all)-held:])
		}
	}
}

// P6.1: so many puts of one byte go round the room several times.
func TestByteByByte(t *testing.T) {
	for _, size := range []int{64, 100, 4096} {
		r := made(t, size)
		for i := range 5 * size {
			wantLost := 0
			if i >= size {
				wantLost = 1
			}
			if got := r.Put([]byte{byte(i % 251)}); got != wantLost {
				t.Fatalf("byte %d: got %d", i, got)
			}
			held := min(i+1, size)
			wantCounts(t, r, held, size, int64(i+1-held))
			wantAt(t, r, held-1, byte(i%251), true)
			wantAt(t, r, 0, byte((i+1-held)%251), true)
			wantAt(t, r, held, 0, false)
		}
	}
}

// P6.2: drops at each edge, wherever the oldest byte stands.
func TestDropAtTheEdges(t *testing.T) {
	r := rand.New(rand.NewSource(5))
	for _, size := range []int{64, 65, 100, 4096} {
		for _, first := range []int{0, 1, size / 2, size - 2, size - 1, size} {
			for _, held := range []int{0, 1, 2, size / 2, size - 1, size} {
				for _, n := range []int{least, least + 1, -size, -2, -1, 0, 1, 2, held - 1, held, held + 1, size, size + 1, 2 * size, 1 << 32, most - 1, most} {
					got, m := turned(t, r, size, first, held)
					wantDrop(t, got, m, n)
					wantCounts(t, got, len(m.bytes), size, 0)
					wantPeek(t, got, size, m.bytes)
					// What comes behind a drop stands behind what was left.
					wantPut(t, got, m, drawn(r, size-len(m.bytes)))
					wantPut(t, got, m, drawn(r, 3))
					wantCounts(t, got, size, size, 3)
					wantPeek(t, got, size, m.bytes)
				}
			}
		}
	}
}

// P6.2: At, Peek and the counts, at all edges, wherever the oldest byte stands.
func TestTellingAtTheEdges(t *testing.T) {
	r := rand.New(rand.NewSource(6))
	for _, size := range []int{64, 65, 1000, 4096} {
		for _, first := range []int{0, 1, size / 2, size - 1, size} {
			for _, held := range []int{0, 1, 2, 63, size / 2, size - 1, size} {
				got, m := turned(t, r, size, first, held)
				wantLike(t, got, m)
			}
		}
	}
}

// P6.2: every number of bytes that Peek may be asked for.
func TestPeekOfAllNumbers(t *testing.T) {
	r := rand.New(rand.NewSource(7))
	for first := range 65 {
		got, m := turned(t, r, 64, first, 64)
		for n := -1; n <= 66; n++ {
			wantPeek(t, got, n, m.bytes[:max(0, min(n, 64))])
		}
	}
}

// howMany is how many bytes are put or dropped next: mostly few, at times about the size or far more.
func howMany(r *rand.Rand, size int) int {
	switch r.Intn(12) {
	case 0:
		return size - 1 + r.Intn(3)
	case 1:
		return size + r.Intn(3*size)
	case 2:
		return 0
	}
	return r.Intn(size/2 + 1)
}

// P6.1, P6.2: puts, drops and copies behind each other; all rings that were copied and all copies go on.
func TestDrawnCalls(t *testing.T) {
	r := rand.New(rand.NewSource(8))
	for _, size := range []int{64, 65, 127, 128, 1000, 4095, 4096} {
		rings, models := []*Ring{made(t, size)}, []*model{{size: size}}
		for step := range 3000 {
			i := r.Intn(len(rings))
			switch r.Intn(9) {
			case 0, 1, 2, 3:
				wantPut(t, rings[i], models[i], drawn(r, howMany(r, size)))
			case 4, 5, 6, 7:
				wantDrop(t, rings[i], models[i], howMany(r, size)-r.Intn(3))
			case 8:
				to := r.Intn(6)
				if to >= len(rings) {
					rings, models = append(rings, nil), append(models, nil)
					to = len(rings) - 1
				}
				rings[to], models[to] = rings[i].Copy(), models[i].copy()
			}
			for k := range rings {
				wantCounts(t, rings[k], len(models[k].bytes), size, models[k].lost)
				if step%20 == 0 {
					wantPeek(t, rings[k], size, models[k].bytes)
				}
			}
		}
		for k := range rings {
			wantLike(t, rings[k], models[k])
		}
	}
}

// Memory (below P6.2): what was handed in may be written over, and is not changed.
func TestHandedInIsNotKept(t *testing.T) {
	r := rand.New(rand.NewSource(9))
	for _, n := range []int{1, 30, 63, 64, 65, 200} {
		got, m := turned(t, r, 64, 40, 20)
		b := drawn(r, n)
		wantPut(t, got, m, b)
		for i := range b {
			b[i] ^= 0xff
		}
		wantLike(t, got, m)
	}
}

// Memory (below P6.2): the ring does not lay bytes behind those that were handed in.
func TestHandedInHasRoomBehind(t *testing.T) {
	room := counted(0, 100)
	r := made(t, 64)
	r.Put(room[:10])
	r.Put(room[50:60])
	r.Put([]byte{200, 201})
	if !bytes.Equal(room, counted(0, 100)) {
		t.Errorf("changed: %v", room)
	}
}

// Memory (below P6.2): what Peek told may be written over, and stays as it was told.
func TestToldHasMemoryOfItsOwn(t *testing.T) {
	r := rand.New(rand.NewSource(10))
	for _, n := range []int{1, 10, 63, 64, most} {
		for _, first := range []int{0, 30, 63} {
			got, m := turned(t, r, 64, first, 64)
			told, other := got.Peek(n), got.Peek(n)
			want := bytes.Clone(told)
			for i := range told {
				told[i] ^= 0xff
			}
			told = append(told, 1, 2, 3)
			wantLike(t, got, m)
			wantPut(t, got, m, drawn(r, 64))
			wantDrop(t, got, m, 5)
			if len(told) != len(want)+3 || !bytes.Equal(other, want) {
				t.Fatalf("Peek of %d: what was told has changed", n)
			}
			wantLike(t, got, m)
		}
	}
}

// P6.2: a copy is just like the ring, and neither changes with the other.
func TestCopyGoesItsOwnWay(t *testing.T) {
	r := rand.New(rand.NewSource(11))
	for _, size := range []int{64, 100, 4096} {
		for _, held := range []int{0, 1, size / 2, size} {
			one, m := turned(t, r, size, size/3, held)
			wantPut(t, one, m, drawn(r, size-held+2)) // so that some were lost
			other, n := one.Copy(), m.copy()
			if other == one {
				t.Fatal("a copy is the ring itself")
			}
			wantLike(t, other, n)
			wantPut(t, one, m, drawn(r, size/2))
			wantDrop(t, one, m, 3)
			wantLike(t, other, n)
			wantPut(t, other, n, drawn(r, size+5))
			wantDrop(t, other, n, size-1)
			wantLike(t, one, m)
			wantLike(t, other, n)
			wantPut(t, other.Copy(), n.copy(), []byte{1})
			wantLike(t, other, n)
		}
	}
}

// wantNothing asks each call of a ring in vain.
func wantNothing(t *testing.T, r *Ring) {
	t.Helper()
	for range 2 {
		for _, b := range [][]byte{nil, {}, {1}, counted(0, 64), counted(0, 5000)} {
			if got := r.Put(b); got != 0 {
				t.Fatalf("Put of %d bytes: got %d", len(b), got)
			}
		}
		wantCounts(t, r, 0, 0, 0)
		for _, i := range []int{least, -1, 0, 1, 63, 64, 4095, 4096, most} {
			wantAt(t, r, i, 0, false)
			if told, went := r.Peek(i), r.Drop(i); len(told) != 0 || went != 0 {
				t.Fatalf("of %d: Peek %v, Drop %d", i, told, went)
			}
		}
		if other := r.Copy(); other != nil {
			t.Fatalf("Copy: got %v", other)
		}
	}
}

// P1, and below P6.2: a ring that is not there, and one that was not made.
func TestNoRing(t *testing.T) {
	wantNothing(t, nil)
	wantNothing(t, &Ring{})
}
