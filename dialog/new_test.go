package dialog

import (
	"bytes"
	"slices"
	"testing"

	"remontoire/api"
)

// wantNew is whether a dialogue may be; one that may is one of which none is sent.
func wantNew(t *testing.T, l []api.Command, timeout int64, tries int, want api.Errno) {
	t.Helper()
	given := cloned(l)
	d, e := New(l, timeout, tries)
	if e != want || (d != nil) != (want == api.OK) {
		t.Fatalf("New of %d commands, %d, %d: %v, %d, want %d", len(l), timeout, tries, d, e, want)
	}
	if !slices.EqualFunc(l, given, sameCommand) {
		t.Fatalf("New changed what was handed in: %v, was %v", l, given)
	}
	if d != nil {
		wantCounts(t, d, 0, 0, len(l), false)
	}
}

// plains are so many commands that wait for nothing.
func plains(n int) []api.Command {
	l := make([]api.Command, n)
	for i := range l {
		l[i] = plain(byte(i + 1))
	}
	return l
}

// P14.1: how many commands a list may have.
func TestNewCounts(t *testing.T) {
	for n := range 40 {
		want := api.ErrArg
		if n <= 16 {
			want = api.OK
		}
		wantNew(t, plains(n), second, 1, want)
	}
	for _, n := range []int{255, 256, 257, 272, 65536, 65537, 65552} {
		wantNew(t, plains(n), second, 1, api.ErrArg)
	}
	wantNew(t, nil, second, 1, api.OK)
	wantNew(t, []api.Command{}, second, 1, api.OK)
	// The length is the slice's, not that of the memory behind it.
	memory := plains(40)
	wantNew(t, memory[:16], second, 1, api.OK)
	wantNew(t, memory[20:36], second, 1, api.OK)
	wantNew(t, append(plains(16), api.Command{})[:16], second, 1, api.OK)
}

// P14.1: how many bytes a command may have, wherever it stands.
func TestNewLengths(t *testing.T) {
	for _, x := range []struct {
		length int
		want   api.Errno
	}{
		{0, api.ErrArg}, {1, api.OK}, {2, api.OK}, {255, api.OK}, {256, api.OK}, {512, api.OK}, {1023, api.OK}, {1024, api.OK}, {1031, api.OK}, {1039, api.OK},
		{1040, api.OK}, {1041, api.ErrArg}, {1042, api.ErrArg}, {2080, api.ErrArg}, {4096, api.ErrArg}, {65536, api.ErrArg}, {65537, api.ErrArg}, {1 << 20, api.ErrArg},
	} {
		for wait := range uint8(3) {
			for n := 1; n <= 16; n += 5 {
				for at := range n {
					l := plains(n)
					l[at] = api.Command{B: bytes.Repeat([]byte{7}, x.length), Wait: wait, Class: 6, ID: 1}
					wantNew(t, l, second, 1, x.want)
				}
			}
		}
	}
	wantNew(t, []api.Command{{}}, second, 1, api.ErrArg)
	wantNew(t, []api.Command{{B: nil, Wait: api.WaitUBX}}, second, 1, api.ErrArg)
	wantNew(t, []api.Command{{B: make([]byte, 0, 8)}}, second, 1, api.ErrArg)
	wantNew(t, []api.Command{{B: make([]byte, 1040, 2000)}}, second, 1, api.OK)
}

// P14.1: a command of the most bytes is sent whole.
func TestLongestIsSent(t *testing.T) {
	for _, n := range []int{1, 1039, 1040} {
		b := make([]byte, n)
		for i := range b {
			b[i] = byte(i * 7)
		}
		d, m := made(t, second, 2, api.Command{B: b, Wait: api.WaitUBX}, api.Command{B: b})
		for i := range int64(4) {
			wantTick(t, d, m, i*second)
		}
		wantCounts(t, d, 1, 1, 0, false)
	}
}

// P14.1: all that a command could wait for, wherever it stands.
func TestNewWaits(t *testing.T) {
	for wait := range 256 {
		want := api.ErrArg
		if wait <= 2 {
			want = api.OK
		}
		for at := range 16 {
			l := plains(16)
			l[at].Wait = uint8(wait)
			wantNew(t, l, second, 1, want)
		}
	}
}

// P14.1: each class and each id may be, whatever the command waits for.
func TestNewClassesAndIDs(t *testing.T) {
	for x := range 256 {
		for wait := range uint8(3) {
			wantNew(t, []api.Command{{B: []byte{0}, Wait: wait, Class: byte(x), ID: byte(255 - x)}}, second, 1, api.OK)
		}
	}
}

// P14.1: timeouts at their bounds, beyond them, and far ones, some of which would be within, were they cut to fewer bits.
func TestNewTimeouts(t *testing.T) {
	for _, l := range [][]api.Command{nil, plains(1), plains(16)} {
		for _, timeout := range []int64{100_000_000, 100_000_001, 999_999_999, second, 1<<31 - 1, 1 << 31, 1<<32 - 1, 1 << 32, 1<<32 + 1, 9_999_999_999, 10_000_000_000} {
			wantNew(t, l, timeout, 1, api.OK)
		}
		for _, timeout := range []int64{
			99_999_999, 99_999_998, 10_000_000_001, 10_000_000_002, 0, 1, -1, 10, 1000, 1_000_000, -99_999_999, -100_000_000, -second, -10_000_000_000, -10_000_000_001, 100_000_000_000,
			1<<34 + second, 1<<40 + second, second - 1<<32, second - 1<<40, 1<<62 + second, least, least + 1, least + second, most, most - 1, most - second,
		} {
			wantNew(t, l, timeout, 1, api.ErrArg)
		}
	}
}

// P14.1: tries at their bounds, beyond them, and far ones.
func TestNewTries(t *testing.T) {
	for _, l := range [][]api.Command{nil, plains(1), plains(16)} {
		for tries := -300; tries <= 300; tries++ {
			want := api.ErrArg
			if tries >= 1 && tries <= 8 {
				want = api.OK
			}
			wantNew(t, l, second, tries, want)
		}
		for _, tries := range []int{1<<16 + 1, 1<<16 + 8, 1<<31 - 1, 1 << 31, 1 << 32, 1<<32 + 1, 1<<32 + 8, -1 << 31, 8 - 1<<32, 1 - 1<<32, 1<<62 + 1, most, most - 1, least, least + 1, least + 8} {
			wantNew(t, l, second, tries, api.ErrArg)
		}
	}
}

// P14.1, P1: several things that may not be, and one alone beside all others at their bounds.
func TestNewRefusesTogether(t *testing.T) {
	wrongList := append(plains(15), api.Command{B: []byte{1}, Wait: 3})
	for i, l := range [][]api.Command{plains(16), wrongList, plains(17), append(plains(16), api.Command{})} {
		for j, timeout := range []int64{100_000_000, 10_000_000_000, 99_999_999, 10_000_000_001} {
			for k, tries := range []int{1, 8, 0, 9} {
				want := api.ErrArg
				if i < 1 && j < 2 && k < 2 {
					want = api.OK
				}
				wantNew(t, l, timeout, tries, want)
			}
		}
	}
}

// P14.1: what is handed in is not kept: list and bytes may be written over behind New, and behind each Tick.
func TestNewKeepsNothing(t *testing.T) {
	l := []api.Command{forUBX(6, 1), plain(9), forSiRF(166), forUBX(6, 8)}
	d, m := made(t, second, 2, l...)
	spoil := func() {
		for i := range l {
			for j := range l[i].B {
				l[i].B[j] ^= 0xFF
			}
			l[i].B = []byte{0}
			l[i].Wait = (l[i].Wait + 1) % 3
			l[i].Class++
			l[i].ID++
		}
	}
	spoil()
	wantLike(t, d, m)
	wantTick(t, d, m, 0)
	spoil()
	wantTick(t, d, m, second)
	wantFrame(t, d, m, api.Frame{Kind: api.FrameUBX, Body: []byte{5, 1, 6, 1}})
	spoil()
	for i := range int64(2) {
		wantTick(t, d, m, second+i)
		spoil()
	}
	wantFrame(t, d, m, api.Frame{Kind: api.FrameSiRF, Body: []byte{12, 166}})
	for i := range int64(4) {
		wantTick(t, d, m, 3*second+i*second)
	}
	wantCounts(t, d, 2, 2, 0, false)
}

// P14.1: dialogues of one list go their own ways.
func TestNewIsAnotherOne(t *testing.T) {
	l := []api.Command{forUBX(6, 1), plain(9)}
	a, b := modelOf(l, second, 1), modelOf(l, second, 1)
	d, _ := New(l, second, 1)
	e, _ := New(l, second, 1)
	wantTick(t, d, a, most)
	wantLike(t, e, b)
	wantTick(t, e, b, 5)
	wantFrame(t, e, b, yesOf(l[0]))
	wantLike(t, d, a)
	wantTick(t, e, b, 6)
	wantTick(t, d, a, most)
	wantCounts(t, d, 0, 0, 2, true)
	wantCounts(t, e, 2, 0, 0, false)
}
