package dialog

import (
	"bytes"
	"math"
	"math/big"
	"math/rand"
	"slices"
	"testing"

	"remontoire/api"
)

const (
	most   = math.MaxInt64
	least  = math.MinInt64
	second = api.Second
)

// The states of a command, as the chapter counts them.
const (
	toBeSent = iota
	inFlight
	done
	failed
)

// sent is a command of the model: what it is, its state, how often it was sent, and at which counter last.
type sent struct {
	c     api.Command
	state int
	times int
	at    int64
}

// model is what a dialogue should do, told over the states of all its commands.
type model struct {
	commands []sent
	timeout  int64
	tries    int
	came     []int64 // all counters
}

func modelOf(l []api.Command, timeout int64, tries int) *model {
	m := &model{timeout: timeout, tries: tries}
	for _, c := range l {
		c.B = bytes.Clone(c.B)
		m.commands = append(m.commands, sent{c: c})
	}
	return m
}

func (m *model) copy() *model {
	other := *m
	other.commands, other.came = slices.Clone(m.commands), slices.Clone(m.came)
	return &other
}

// first is the first command in that state; nil, if there is none.
func (m *model) first(state int) *sent {
	for i := range m.commands {
		if m.commands[i].state == state {
			return &m.commands[i]
		}
	}
	return nil
}

func (m *model) counts() (counts [4]int) {
	for _, s := range m.commands {
		counts[s.state]++
	}
	return counts
}

// tick is the bytes that are sent; nil, if none are.
func (m *model) tick(now int64) []byte {
	m.came = append(m.came, now)
	now = slices.Max(m.came)
	s := m.first(inFlight)
	if s != nil {
		lapse := new(big.Int).Sub(big.NewInt(now), big.NewInt(s.at))
		if lapse.Cmp(big.NewInt(m.timeout)) < 0 {
			return nil
		}
		if s.times == m.tries {
			s.state, s = failed, nil
		}
	}
	if s == nil {
		s = m.first(toBeSent)
	}
	if s == nil {
		return nil
	}
	s.state, s.times, s.at = inFlight, s.times+1, now
	if s.c.Wait == api.WaitNone {
		s.state = done
	}
	return s.c.B
}

// frame is whether the frame is one of the two that the command in flight waits for.
func (m *model) frame(f api.Frame) bool {
	s := m.first(inFlight)
	if s == nil {
		return false
	}
	for state, b := range map[int]api.Frame{done: yesOf(s.c), failed: noOf(s.c)} {
		if f.Kind == b.Kind && bytes.Equal(f.Body, b.Body) {
			s.state = state
			return true
		}
	}
	return false
}

// yesOf is the frame that says that a command was taken, written out byte by byte.
func yesOf(c api.Command) api.Frame {
	if c.Wait == api.WaitSiRF {
		return api.Frame{Kind: api.FrameSiRF, Body: []byte{11, c.ID}}
	}
	return api.Frame{Kind: api.FrameUBX, Body: []byte{5, 1, c.Class, c.ID}}
}

// noOf is the frame that says that a command was refused.
func noOf(c api.Command) api.Frame {
	if c.Wait == api.WaitSiRF {
		return api.Frame{Kind: api.FrameSiRF, Body: []byte{12, c.ID}}
	}
	return api.Frame{Kind: api.FrameUBX, Body: []byte{5, 0, c.Class, c.ID}}
}

// plain is a command that waits for nothing, of one byte.
func plain(b byte) api.Command { return api.Command{B: []byte{b}} }

// forUBX is a command that waits for an acknowledgment of a class and an id.
func forUBX(class, id byte) api.Command {
	return api.Command{B: []byte{'u', class, id}, Wait: api.WaitUBX, Class: class, ID: id}
}

// forSiRF is a command that waits for the messages 11 or 12 of an id.
func forSiRF(id byte) api.Command {
	return api.Command{B: []byte{'s', id}, Wait: api.WaitSiRF, ID: id}
}

// drawnCommand is one that waits for anything, of few classes and ids, so that several are alike.
func drawnCommand(r *rand.Rand) api.Command {
	b := make([]byte, 1+r.Intn(5))
	r.Read(b)
	return api.Command{B: b, Wait: uint8(r.Intn(3)), Class: byte(5 + r.Intn(2)), ID: byte(r.Intn(2))}
}

func drawnList(r *rand.Rand, n int) []api.Command {
	l := make([]api.Command, n)
	for i := range l {
		l[i] = drawnCommand(r)
	}
	return l
}

// cloned is a list just like l, in memory of its own.
func cloned(l []api.Command) []api.Command {
	other := slices.Clone(l)
	for i := range other {
		other[i].B = bytes.Clone(l[i].B)
	}
	return other
}

func sameCommand(a, b api.Command) bool {
	return bytes.Equal(a.B, b.B) && a.Wait == b.Wait && a.Class == b.Class && a.ID == b.ID
}

// made is a dialogue that may be, and its model.
func made(t *testing.T, timeout int64, tries int, l ...api.Command) (*Dialog, *model) {
	t.Helper()
	d, e := New(l, timeout, tries)
	if d == nil || e != api.OK {
		t.Fatalf("New of %v, %d, %d: %v, %d", l, timeout, tries, d, e)
	}
	m := modelOf(l, timeout, tries)
	wantLike(t, d, m)
	return d, m
}

func wantCounts(t *testing.T, d *Dialog, wantDone, wantFailed, wantLeft int, flying bool) {
	t.Helper()
	a, b, c := d.Counts()
	if a != wantDone || b != wantFailed || c != wantLeft || d.Flying() != flying {
		t.Fatalf("%d done, %d failed, %d left, flying %t, want %d, %d, %d, %t", a, b, c, d.Flying(), wantDone, wantFailed, wantLeft, flying)
	}
}

// wantLike asks all that a dialogue tells, twice, as telling changes nothing.
func wantLike(t *testing.T, d *Dialog, m *model) {
	t.Helper()
	n := m.counts()
	for range 2 {
		wantCounts(t, d, n[done], n[failed], n[toBeSent]+n[inFlight], n[inFlight] > 0)
	}
}

func wantTick(t *testing.T, d *Dialog, m *model, now int64) {
	t.Helper()
	want := m.tick(now)
	got, ok := d.Tick(now)
	if ok != (want != nil) || !bytes.Equal(got, want) {
		t.Fatalf("Tick at %d: % X, %t, want % X", now, got, ok, want)
	}
	wantLike(t, d, m)
	// What was told is the caller's now.
	clear(got[:cap(got)])
}

func wantFrame(t *testing.T, d *Dialog, m *model, f api.Frame) {
	t.Helper()
	body := bytes.Clone(f.Body)
	want := m.frame(f)
	if got := d.Frame(f); got != want {
		t.Fatalf("Frame of kind %d, % X: %t, want %t", f.Kind, f.Body, got, want)
	}
	if !bytes.Equal(f.Body, body) {
		t.Fatalf("Frame changed % X into % X", body, f.Body)
	}
	wantLike(t, d, m)
}

// wantSent is that a Tick at that counter sends these bytes; none of none.
func wantSent(t *testing.T, d *Dialog, now int64, want ...byte) {
	t.Helper()
	got, ok := d.Tick(now)
	if ok != (len(want) > 0) || !bytes.Equal(got, want) {
		t.Fatalf("Tick at %d: % X, %t, want % X", now, got, ok, want)
	}
}

// wantHeard is whether a frame is what a command waits for.
func wantHeard(t *testing.T, d *Dialog, want bool, kind uint8, body ...byte) {
	t.Helper()
	if got := d.Frame(api.Frame{Kind: kind, Body: body}); got != want {
		t.Fatalf("Frame of kind %d, % X: %t, want %t", kind, body, got, want)
	}
}
