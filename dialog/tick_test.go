package dialog

import (
	"math/rand"
	"slices"
	"testing"

	"remontoire/api"
)

// far are counters at which a first Tick may come: about 0, negative ones, and those at the ends of int64.
var far = []int64{
	least, least + 1, least + second, -1 << 62, -10_000_000_001, -second, -2, -1, 0, 1, 2, 100_000_000, second, 1 << 31, 1 << 32, 1 << 60, 1 << 62,
	most - 20_000_000_000, most - 10_000_000_000, most - second, most - 100_000_000, most - 1, most,
}

var timeouts = []int64{100_000_000, 100_000_001, second, 1 << 32, 9_999_999_999, 10_000_000_000}

// later is a counter that is so far behind another one, or the greatest one, if that would be beyond.
func later(at, by int64) int64 {
	if at > most-by {
		return most
	}
	return at + by
}

// P14.1: the chapter's examples.
func TestKnown(t *testing.T) {
	l := []api.Command{{B: []byte("first"), Wait: api.WaitUBX, Class: 6, ID: 1}, {B: []byte("second"), Wait: api.WaitUBX, Class: 6, ID: 1}}
	d, _ := made(t, 1_000_000_000, 2, l...)
	wantSent(t, d, 0, l[0].B...)
	wantSent(t, d, 1)
	wantSent(t, d, 1_000_000_000, l[0].B...)
	wantCounts(t, d, 0, 0, 2, true)
	wantHeard(t, d, true, api.FrameUBX, 5, 1, 6, 1)
	wantCounts(t, d, 1, 0, 1, false)
	wantSent(t, d, 1_000_000_001, l[1].B...)
	wantCounts(t, d, 1, 0, 1, true)
}

// P14.1: Ticks on both sides of each timeout, from all counters on, till all tries are over.
func TestTickAboutTimeouts(t *testing.T) {
	for _, timeout := range timeouts {
		for _, from := range far {
			for tries := 1; tries <= 8; tries++ {
				d, m := made(t, timeout, tries, forUBX(6, 1), forSiRF(166), plain(3), forUBX(6, 8))
				at := from
				for range 3*tries + 3 {
					wantTick(t, d, m, at)
					for _, by := range []int64{0, 1, timeout / 2, timeout - 2, timeout - 1} {
						wantTick(t, d, m, later(at, by))
					}
					at = later(at, timeout)
				}
				if from < most-500*second {
					wantCounts(t, d, 1, 3, 0, false)
				}
			}
		}
	}
}

// P14.1: less than the timeout ago nothing is sent; at the timeout, and far behind it, it is sent once more, and once alone.
func TestTickAtTimeout(t *testing.T) {
	for _, timeout := range timeouts {
		for _, behind := range []int64{0, 1, timeout - 1, timeout, 10 * timeout, 1 << 50, 1 << 62} {
			d, _ := made(t, timeout, 2, forUBX(6, 1), plain(9))
			wantSent(t, d, 77, 'u', 6, 1)
			wantSent(t, d, 77)
			wantSent(t, d, 78)
			wantSent(t, d, 77+timeout-1)
			at := 77 + timeout + behind
			wantSent(t, d, at, 'u', 6, 1)
			wantSent(t, d, at)
			// The lapse is counted anew from here.
			wantSent(t, d, at+timeout-1)
			wantCounts(t, d, 0, 0, 2, true)
			wantSent(t, d, at+timeout, 9)
			wantCounts(t, d, 1, 1, 0, false)
		}
	}
}

// P14.1: from the least counter to the greatest one the lapse is beyond int64, and at least the timeout.
func TestTickBeyondInt64(t *testing.T) {
	for _, from := range []int64{least, least + 1, -1 << 62, -second, -2, -1} {
		for _, to := range []int64{most, most - 1, 1 << 62, most - second} {
			d, m := made(t, 10_000_000_000, 2, forUBX(6, 1), plain(9))
			wantTick(t, d, m, from)
			wantTick(t, d, m, to)
			wantSent(t, d, to)
			wantCounts(t, d, 0, 0, 2, true)
		}
	}
	d, _ := made(t, second, 1, forUBX(6, 1), plain(9))
	wantSent(t, d, least, 'u', 6, 1)
	wantSent(t, d, most, 9)
	wantSent(t, d, most)
	wantCounts(t, d, 1, 1, 0, false)
}

// P14.1: near the greatest counter the timeout would end beyond int64: it does not end.
func TestTickAtTheEnd(t *testing.T) {
	for _, timeout := range timeouts {
		for _, ahead := range []int64{0, 1, timeout - 1} {
			d, _ := made(t, timeout, 1, forUBX(6, 1), plain(9))
			wantSent(t, d, most-ahead, 'u', 6, 1)
			for _, at := range []int64{most, most - 1, least, 0, -1, most} {
				wantSent(t, d, at)
			}
			wantCounts(t, d, 0, 0, 2, true)
		}
		d, _ := made(t, timeout, 1, forUBX(6, 1), plain(9))
		wantSent(t, d, most-timeout, 'u', 6, 1)
		wantSent(t, d, most-1)
		wantSent(t, d, most, 9)
	}
}

// P14.1: a counter below the greatest one that came counts as that.
func TestTickAtLowerCounters(t *testing.T) {
	for _, lower := range []int64{least, least + 1, -1 << 62, -second, -1, 0, 1, second, 99 * second, 100*second - 1} {
		// Sent at 100 s, whatever is said.
		d, m := made(t, second, 2, plain(1), forUBX(6, 1), plain(3))
		wantTick(t, d, m, 100*second)
		wantTick(t, d, m, lower)
		wantCounts(t, d, 1, 0, 2, true)
		wantSent(t, d, later(lower, second-1))
		wantSent(t, d, lower)
		wantSent(t, d, 101*second-1)
		wantSent(t, d, lower)
		wantSent(t, d, 101*second, 'u', 6, 1)
		wantSent(t, d, lower)
		wantSent(t, d, 102*second-1)
		wantSent(t, d, 102*second, 3)
		wantCounts(t, d, 2, 1, 0, false)
	}
}

// P14.1: counters of Ticks that sent nothing came, too.
func TestTickOfNothingCame(t *testing.T) {
	d, m := made(t, second, 1, forUBX(6, 1), forUBX(6, 8), plain(3))
	wantTick(t, d, m, 0)
	wantTick(t, d, m, second/2)
	wantFrame(t, d, m, yesOf(forUBX(6, 1)))
	wantTick(t, d, m, 0)
	wantCounts(t, d, 1, 0, 2, true)
	wantSent(t, d, second)
	wantSent(t, d, second+second/2-1)
	wantSent(t, d, second+second/2, 3)

	// Behind a list that is over, and one that holds nothing, they come in vain.
	for _, l := range [][]api.Command{nil, {plain(1)}} {
		d, m := made(t, second, 1, l...)
		for _, at := range []int64{5, most, least, 0, most} {
			wantTick(t, d, m, at)
		}
		wantCounts(t, d, len(l), 0, 0, false)
	}
}

// P14.1: a command is sent as often as it has tries, then the next one by the same Tick.
func TestTickTries(t *testing.T) {
	for tries := 1; tries <= 8; tries++ {
		for n := 1; n <= 16; n++ {
			var l []api.Command
			for i := range n {
				l = append(l, []api.Command{forUBX(6, byte(i)), forSiRF(byte(i))}[i%2])
			}
			d, _ := made(t, second, tries, l...)
			at := int64(0)
			for i := range n {
				for range tries {
					wantSent(t, d, at, l[i].B...)
					wantCounts(t, d, 0, i, n-i, true)
					at += second
				}
			}
			wantSent(t, d, at-1)
			wantCounts(t, d, 0, n-1, 1, true)
			wantSent(t, d, at)
			wantCounts(t, d, 0, n, 0, false)
			wantSent(t, d, most)
			wantCounts(t, d, 0, n, 0, false)
		}
	}
}

// P14.1: each command has tries of its own, however often those ahead of it were sent.
func TestTickTriesAreItsOwn(t *testing.T) {
	a, b := forUBX(6, 1), forSiRF(166)
	d, _ := made(t, second, 3, a, b)
	wantSent(t, d, 0, a.B...)
	wantSent(t, d, second, a.B...)
	wantHeard(t, d, true, api.FrameUBX, 5, 1, 6, 1)
	for i := int64(1); i <= 3; i++ {
		wantSent(t, d, i*second, b.B...)
	}
	wantSent(t, d, 4*second)
	wantCounts(t, d, 1, 1, 0, false)
}

// P14.1: commands that wait for nothing: one a Tick, each once, done at once, at one counter, too.
func TestTickWaitsForNothing(t *testing.T) {
	for n := range 17 {
		for _, by := range []int64{0, 1, second, -5} {
			for _, tries := range []int{1, 8} {
				d, _ := made(t, second, tries, plains(n)...)
				for i := range n {
					wantCounts(t, d, i, 0, n-i, false)
					wantSent(t, d, by*int64(i), byte(i+1))
				}
				for i := range int64(20) {
					wantSent(t, d, i*second)
					wantCounts(t, d, n, 0, 0, false)
				}
			}
		}
	}
}

// P14.1: Ticks send one command at most, though several wait for nothing, and though the one ahead has failed by it.
func TestTickSendsOne(t *testing.T) {
	d, _ := made(t, second, 1, plain(1), plain(2), forUBX(6, 1), plain(4), plain(5), forSiRF(7), forSiRF(8), plain(9))
	wantSent(t, d, 0, 1)
	wantCounts(t, d, 1, 0, 7, false)
	wantSent(t, d, 0, 2)
	wantCounts(t, d, 2, 0, 6, false)
	wantSent(t, d, 0, 'u', 6, 1)
	wantCounts(t, d, 2, 0, 6, true)
	wantSent(t, d, second-1)
	wantSent(t, d, second, 4)
	wantCounts(t, d, 3, 1, 4, false)
	wantSent(t, d, second, 5)
	wantSent(t, d, second, 's', 7)
	wantCounts(t, d, 4, 1, 3, true)
	wantSent(t, d, 100*second, 's', 8)
	wantCounts(t, d, 4, 2, 2, true)
	wantSent(t, d, 100*second)
	wantSent(t, d, 101*second, 9)
	wantCounts(t, d, 5, 3, 0, false)
	wantSent(t, d, 101*second)
}

// P14.1: a command that is refused or done lets the next one be sent by the next Tick, not ahead of it, whatever its counter.
func TestTickBehindAnAnswer(t *testing.T) {
	for _, answer := range []func(api.Command) api.Frame{yesOf, noOf} {
		for _, c := range []api.Command{forUBX(6, 1), forSiRF(166)} {
			for _, at := range []int64{least, 0, 100, 101, second, most} {
				d, m := made(t, second, 8, c, plain(7), plain(8))
				wantTick(t, d, m, 100)
				wantFrame(t, d, m, answer(c))
				wantSent(t, d, at, 7)
				wantSent(t, d, at, 8)
				wantSent(t, d, most)
			}
		}
	}
}

// P14.1: what is told may be written over: what is sent again is as it was.
func TestTickOwnMemory(t *testing.T) {
	c := forUBX(6, 1)
	d, _ := made(t, second, 8, c, c)
	for i := range int64(16) {
		b, ok := d.Tick(i * second)
		if !ok || !slices.Equal(b, c.B) {
			t.Fatalf("Tick %d: % X, %t", i, b, ok)
		}
		b[0] ^= 0xFF
		_ = append(b, 1, 2, 3)
		clear(b)
	}
}

// doings are what may be done to a dialogue with a timeout of one second, at a time that each may move on.
var doings = []func(t *testing.T, d *Dialog, m *model, at *int64){
	func(t *testing.T, d *Dialog, m *model, at *int64) { wantTick(t, d, m, *at) },
	func(t *testing.T, d *Dialog, m *model, at *int64) { *at += second - 1; wantTick(t, d, m, *at) },
	func(t *testing.T, d *Dialog, m *model, at *int64) { *at += second; wantTick(t, d, m, *at) },
	func(t *testing.T, d *Dialog, m *model, at *int64) { wantTick(t, d, m, -5) },
	func(t *testing.T, d *Dialog, m *model, at *int64) { wantFrame(t, d, m, yesOf(forUBX(6, 1))) },
	func(t *testing.T, d *Dialog, m *model, at *int64) { wantFrame(t, d, m, noOf(forUBX(6, 1))) },
	func(t *testing.T, d *Dialog, m *model, at *int64) { wantFrame(t, d, m, yesOf(forSiRF(166))) },
}

// P14.1, P14.2: all short lists, and all that may be done to them in so many steps.
func TestAllShortRuns(t *testing.T) {
	commands := []api.Command{plain(1), forUBX(6, 1), forSiRF(166)}
	const steps = 4
	runs := 1
	for range steps {
		runs *= len(doings)
	}
	for pick := range 27 {
		l := []api.Command{commands[pick%3], commands[pick/3%3], commands[pick/9]}
		for tries := 1; tries <= 2; tries++ {
			for run := range runs {
				d, _ := New(l, second, tries)
				m, at := modelOf(l, second, tries), int64(0)
				for range steps {
					doings[run%len(doings)](t, d, m, &at)
					run /= len(doings)
				}
			}
		}
	}
}

// drawnStep does something to a dialogue: mostly Ticks about its timeout, and the frames that its commands wait for; seldom a Tick at any counter, behind which time may stand.
func drawnStep(t *testing.T, r *rand.Rand, d *Dialog, m *model, at *int64) {
	t.Helper()
	switch r.Intn(8) {
	case 0:
		counter := *at - r.Int63n(3*m.timeout)
		if r.Intn(50) == 0 {
			counter = int64(r.Uint64() >> r.Intn(64))
		}
		wantTick(t, d, m, counter)
	case 1, 2, 3:
		*at += []int64{0, 1, m.timeout - 1, m.timeout, m.timeout + 1, r.Int63n(m.timeout)}[r.Intn(6)]
		wantTick(t, d, m, *at)
	case 4:
		body := make([]byte, r.Intn(6))
		for i := range body {
			body[i] = []byte{0, 1, 5, 6, 11, 12}[r.Intn(6)]
		}
		wantFrame(t, d, m, api.Frame{Kind: uint8(r.Intn(5)), Body: body})
	default:
		answer := []func(api.Command) api.Frame{yesOf, noOf}[r.Intn(2)]
		wantFrame(t, d, m, answer(drawnCommand(r)))
	}
}

// P14.1, P14.2: drawn lists, drawn doings.
func TestDrawnRuns(t *testing.T) {
	r := rand.New(rand.NewSource(141))
	for range 3000 {
		l := drawnList(r, r.Intn(17))
		d, m := made(t, api.MinTimeout+r.Int63n(api.MaxTimeout-api.MinTimeout+1), 1+r.Intn(8), l...)
		at := r.Int63n(1<<40) - 1<<39
		for range 100 {
			drawnStep(t, r, d, m, &at)
		}
	}
}

// What follows: none is sent more often than it has tries, nor behind another one before that is over; behind enough timeouts all are.
func TestAllAreOver(t *testing.T) {
	r := rand.New(rand.NewSource(142))
	for range 2000 {
		l := drawnList(r, r.Intn(17))
		for i := range l {
			l[i].B = []byte{byte(i)}
		}
		tries := 1 + r.Intn(8)
		d, _ := made(t, second, tries, l...)
		times, last := make([]int, len(l)), 0
		for step := range len(l)*tries + 1 {
			if b, ok := d.Tick(int64(step) * second); ok {
				at := int(b[0])
				times[at]++
				over, lost, _ := d.Counts()
				if times[at] > tries || at < last || over+lost < at {
					t.Fatalf("the command %d is sent %d times, behind %d, %d are over", at, times[at], last, over+lost)
				}
				last = at
			}
		}
		none := 0
		for i, c := range l {
			want := tries
			if c.Wait == api.WaitNone {
				want, none = 1, none+1
			}
			if times[i] != want {
				t.Fatalf("the command %d was sent %d times, want %d", i, times[i], want)
			}
		}
		wantCounts(t, d, none, len(l)-none, 0, false)
	}
}
