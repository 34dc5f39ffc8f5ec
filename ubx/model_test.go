package ubx

import (
	"bytes"
	"fmt"
	"math/big"
	"math/rand"
	"regexp"
	"slices"
	"strconv"
	"strings"
	"testing"

	"remontoire/api"
)

// What the tests hold the package against: the chapter's table, read as text, and unbounded numbers.

// table is the chapter's table of kinds, row by row.
const table = `
1, 7 | NAV-PVT | 92 | TOW 0, 4; year 4, 2; month 6, 1; day 7, 1; hour 8, 1; minute 9, 1; second 10, 1; valid 11, 1; accuracy 12, 4; nano 16, 4 s; fix 20, 1; flags 21, 1
1, 32 | NAV-TIMEGPS | 16 | TOW 0, 4; fraction 4, 4 s; week 8, 2; leaps 10, 1 s; valid 11, 1; accuracy 12, 4
1, 33 | NAV-TIMEUTC | 20 | TOW 0, 4; accuracy 4, 4; nano 8, 4 s; year 12, 2; month 14, 1; day 15, 1; hour 16, 1; minute 17, 1; second 18, 1; valid 19, 1
1, 38 | NAV-TIMELS | 24 | TOW 0, 4; version 4, 1; source 8, 1; leaps 9, 1 s; source of change 10, 1; change 11, 1 s; time to it 12, 4 s; its week 16, 2; its day 18, 2; valid 23, 1
13, 1 | TIM-TP | 16 | TOW 0, 4; below 4, 4; error 8, 4 s; week 12, 2; flags 14, 1; reference 15, 1
5, 0 | ACK-NAK | 2 | class 0, 1; id 1, 1
5, 1 | ACK-ACK | 2 | class 0, 1; id 1, 1
6, 1 | CFG-MSG | 3 | class 0, 1; id 1, 1; rate 2, 1
6, 8 | CFG-RATE | 6 | measured 0, 2; cycles 2, 2; reference 4, 2
6, 49 | CFG-TP5 | 32 | index 0, 1; delay 4, 2 s; period 8, 4; length 16, 4; flags 28, 4
`

// entry is one field of the table.
type entry struct {
	name          string
	place, length int
	signed        bool
}

// row is one row of the table.
type row struct {
	class, id byte
	name      string
	length    int
	entries   []entry
}

// rows are the table's rows, in its order.
var rows = readTable()

var (
	rowForm   = regexp.MustCompile(`^(\d+), (\d+) \| (\S+) \| (\d+) \| (.+)$`)
	entryForm = regexp.MustCompile(`^([A-Za-z ]+) (\d+), ([124])( s)?$`)
)

func readTable() []row {
	var out []row
	for _, line := range strings.Split(strings.TrimSpace(table), "\n") {
		m := rowForm.FindStringSubmatch(line)
		r := row{class: byte(number(m[1])), id: byte(number(m[2])), name: m[3], length: number(m[4])}
		for _, part := range strings.Split(m[5], "; ") {
			f := entryForm.FindStringSubmatch(part)
			r.entries = append(r.entries, entry{f[1], number(f[2]), number(f[3]), f[4] != ""})
		}
		out = append(out, r)
	}
	return out
}

func number(s string) int {
	n, err := strconv.Atoi(s)
	if err != nil {
		panic(err)
	}
	return n
}

// rowOf is the row of a kind; none, if the table has none.
func rowOf(class, id byte) *row {
	for i, r := range rows {
		if r.class == class && r.id == id {
			return &rows[i]
		}
	}
	return nil
}

// span is how many values a field has room for.
func (f entry) span() *big.Int { return new(big.Int).Lsh(big.NewInt(1), uint(8*f.length)) }

// least and most are a field's bounds.
func (f entry) least() int64 {
	if !f.signed {
		return 0
	}
	return new(big.Int).Neg(new(big.Int).Rsh(f.span(), 1)).Int64()
}

func (f entry) most() int64 {
	return f.least() + f.span().Int64() - 1
}

// valueIn is what stands in a payload: its bytes as digits of the base 256, and less all that there is room for, if it is beyond the most.
func (f entry) valueIn(payload []byte) int64 {
	sum := new(big.Int)
	for i := f.length - 1; i >= 0; i-- {
		sum.Mul(sum, big.NewInt(256))
		sum.Add(sum, big.NewInt(int64(payload[f.place+i])))
	}
	if sum.Cmp(big.NewInt(f.most())) > 0 {
		sum.Sub(sum, f.span())
	}
	return sum.Int64()
}

// lay puts a value that fits in a payload.
func (f entry) lay(payload []byte, value int64) {
	rest := new(big.Int).Mod(big.NewInt(value), f.span())
	for i := range f.length {
		digit := new(big.Int)
		rest.DivMod(rest, big.NewInt(256), digit)
		payload[f.place+i] = byte(digit.Int64())
	}
}

// decodeOf is what Decode must tell.
func decodeOf(class, id byte, payload []byte) (api.Ubx, api.Errno) {
	r := rowOf(class, id)
	if r == nil {
		return api.Ubx{}, api.ErrNone
	}
	if len(payload) != r.length {
		return api.Ubx{}, api.ErrForm
	}
	u := api.Ubx{Class: class, ID: id}
	for _, f := range r.entries {
		u.V = append(u.V, f.valueIn(payload))
	}
	return u, api.OK
}

// payloadOf is what Payload must tell.
func payloadOf(u api.Ubx) ([]byte, api.Errno) {
	r := rowOf(u.Class, u.ID)
	if r == nil {
		return nil, api.ErrNone
	}
	if len(u.V) != len(r.entries) {
		return nil, api.ErrArg
	}
	payload := make([]byte, r.length)
	for i, f := range r.entries {
		if u.V[i] < f.least() || u.V[i] > f.most() {
			return nil, api.ErrArg
		}
		f.lay(payload, u.V[i])
	}
	return payload, api.OK
}

// frameOf is the frame about a payload; the second sum has each byte as often as bytes stand from it on.
func frameOf(class, id byte, payload []byte) []byte {
	summed := append([]byte{class, id, byte(len(payload) % 256), byte(len(payload) / 256)}, payload...)
	sum, weighed := 0, 0
	for i, x := range summed {
		sum += int(x)
		weighed += int(x) * (len(summed) - i)
	}
	out := append([]byte{0xB5, 0x62}, summed...)
	return append(out, byte(sum%256), byte(weighed%256))
}

func sameMessage(a, b api.Ubx) bool {
	return a.Class == b.Class && a.ID == b.ID && slices.Equal(a.V, b.V)
}

// wantDecode asks Decode twice for what the model tells, with memory of its own each time, and that the payload stays.
func wantDecode(t *testing.T, class, id byte, payload []byte) {
	t.Helper()
	want, e := decodeOf(class, id, payload)
	kept := slices.Clone(payload)
	for range 2 {
		got, err := Decode(class, id, payload)
		if err != e || !sameMessage(got, want) {
			t.Fatalf("Decode of %d, %d, %x: %v, %d, want %v, %d", class, id, kept, got, err, want, e)
		}
		for i := range got.V[:cap(got.V)] {
			got.V[:cap(got.V)][i] = -7
		}
		if !bytes.Equal(payload, kept) {
			t.Fatalf("Decode of %d, %d, %x: the payload is %x then", class, id, kept, payload)
		}
	}
}

// wantWritten asks Payload and Encode twice for what the model tells, with memory of its own each time, and that the message stays.
func wantWritten(t *testing.T, u api.Ubx) {
	t.Helper()
	payload, e := payloadOf(u)
	var all []byte
	if e == api.OK {
		all = frameOf(u.Class, u.ID, payload)
	}
	wantRow(t, "Payload", Payload, u, payload, e)
	wantRow(t, "Encode", Encode, u, all, e)
}

func wantRow(t *testing.T, name string, call func(api.Ubx) ([]byte, api.Errno), u api.Ubx, want []byte, e api.Errno) {
	t.Helper()
	kept := slices.Clone(u.V)
	for range 2 {
		got, err := call(u)
		if err != e || !bytes.Equal(got, want) {
			t.Fatalf("%s of %v: %x, %d, want %x, %d", name, u, got, err, want, e)
		}
		// Were it told again out of the same memory, or were there a table below, the next one would be another one.
		for i := range got[:cap(got)] {
			got[:cap(got)][i] = 200
		}
		if !slices.Equal(u.V, kept) {
			t.Fatalf("%s of %v: the values are %v then", name, kept, u.V)
		}
	}
}

// drawnPayload is a payload of drawn bytes.
func drawnPayload(random *rand.Rand, length int) []byte {
	out := make([]byte, length)
	random.Read(out)
	return out
}

// drawnValue is a value that fits: at an edge, near one, or anywhere.
func (f entry) drawnValue(random *rand.Rand) int64 {
	switch random.Intn(5) {
	case 0:
		return f.least()
	case 1:
		return f.most()
	case 2:
		return min(f.least()+random.Int63n(300), f.most())
	}
	return f.least() + random.Int63n(f.span().Int64())
}

// drawnMessage is a message of a row's kind whose values fit.
func drawnMessage(random *rand.Rand, r row) api.Ubx {
	u := api.Ubx{Class: r.class, ID: r.id}
	for _, f := range r.entries {
		u.V = append(u.V, f.drawnValue(random))
	}
	return u
}

// middle is a message of a row's kind that has no value at an edge.
func middle(r row) api.Ubx {
	u := api.Ubx{Class: r.class, ID: r.id}
	for i := range r.entries {
		u.V = append(u.V, int64(3+i))
	}
	return u
}

// withValue is a message with another value at a place.
func withValue(u api.Ubx, at int, value int64) api.Ubx {
	u.V = slices.Clone(u.V)
	u.V[at] = value
	return u
}

// TestTable asks that the tests' table is all that the chapter lists.
func TestTable(t *testing.T) {
	told := ""
	for _, r := range rows {
		told += fmt.Sprint(r.name, " ", r.length, " ", len(r.entries), ";")
	}
	const want = "NAV-PVT 92 12;NAV-TIMEGPS 16 6;NAV-TIMEUTC 20 10;NAV-TIMELS 24 10;TIM-TP 16 6;ACK-NAK 2 2;ACK-ACK 2 2;CFG-MSG 3 3;CFG-RATE 6 3;CFG-TP5 32 5;"
	if told != want {
		t.Fatal(told)
	}
	for _, r := range rows {
		taken := make([]int, r.length)
		for _, f := range r.entries {
			for i := range f.length {
				taken[f.place+i]++
			}
		}
		if slices.Max(taken) > 1 {
			t.Errorf("%s: fields stand one in the other: %v", r.name, taken)
		}
	}
}
