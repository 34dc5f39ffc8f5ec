package sirf

import (
	"bytes"
	"fmt"
	"math/big"
	"math/rand"
	"regexp"
	"slices"
	"strconv"
	"strings"
	"testing"

	"remontoire/api"
)

// What the tests hold the package against: the chapter's table, read as text, and unbounded numbers.

// table is the chapter's table of kinds, row by row.
const table = `
2 | Measure Navigation Data Out | 41 | x, y, z 1, 5, 9, 4 s each; their speeds 13, 15, 17, 2 s each; mode 19, 1; dilution 20, 1; mode more 21, 1; week (10 bits) 22, 2; TOW (1/100 s) 24, 4; satellites 28, 1
4 | Measured Tracker Data Out | 188 | week (10 bits) 1, 2 s; TOW (1/100 s) 3, 4; channels 7, 1
7 | Clock Status Data | 20 | week 1, 2; TOW (1/100 s) 3, 4; satellites 7, 1; drift 8, 4; bias 12, 4; time (ms) 16, 4
41 | Geodetic Navigation Data | 91 | not valid 1, 2; type 3, 2; week 5, 2; TOW (ms) 7, 4; year 11, 2; month 13, 1; day 14, 1; hour 15, 1; minute 16, 1; second (ms) 17, 2
52 | 1 PPS Time | 19 | hour 1, 1; minute 2, 1; second 3, 1; day 4, 1; month 5, 1; year 6, 2; offset 8, 2 s; its fraction 10, 4; status 14, 1
11 | Command Acknowledgment | 2 | message 1, 1
12 | Command Rejection | 2 | message 1, 1
166 | Set Message Rate | 8 | mode 1, 1; message 2, 1; rate 3, 1
`

// entry is one field of the table.
type entry struct {
	name          string
	place, length int
	signed        bool
}

// row is one row of the table.
type row struct {
	mid     byte
	name    string
	length  int
	entries []entry
}

// rows are the table's rows, in its order.
var rows = readTable()

var (
	rowForm = regexp.MustCompile(`^(\d+) \| ([^|]+) \| (\d+) \| (.+)$`)
	// Of several fields that are written as one part, each has a place, and all have the length behind the places.
	partForm = regexp.MustCompile(`^(.+?) ((?:\d+, )+)([124])( s)?( each)?$`)
)

func readTable() []row {
	var out []row
	for _, line := range strings.Split(strings.TrimSpace(table), "\n") {
		m := rowForm.FindStringSubmatch(line)
		r := row{mid: byte(number(m[1])), name: m[2], length: number(m[3])}
		for _, part := range strings.Split(m[4], "; ") {
			r.entries = append(r.entries, readPart(part)...)
		}
		out = append(out, r)
	}
	return out
}

func readPart(part string) []entry {
	m := partForm.FindStringSubmatch(part)
	places := strings.Split(strings.TrimSuffix(m[2], ", "), ", ")
	if (len(places) > 1) != (m[5] != "") {
		panic(part)
	}
	var out []entry
	for _, p := range places {
		out = append(out, entry{m[1], number(p), number(m[3]), m[4] != ""})
	}
	return out
}

func number(s string) int {
	n, err := strconv.Atoi(s)
	if err != nil {
		panic(err)
	}
	return n
}

// rowOf is the row of a MID; none, if the table has none.
func rowOf(mid byte) *row {
	for i, r := range rows {
		if r.mid == mid {
			return &rows[i]
		}
	}
	return nil
}

// places are which bytes of a row's payload are of a field.
func (r row) places() []bool {
	out := make([]bool, r.length)
	for _, f := range r.entries {
		for i := range f.length {
			out[f.place+i] = true
		}
	}
	return out
}

// span is how many values a field has room for.
func (f entry) span() *big.Int { return new(big.Int).Lsh(big.NewInt(1), uint(8*f.length)) }

// least and most are a field's bounds.
func (f entry) least() int64 {
	if !f.signed {
		return 0
	}
	return new(big.Int).Neg(new(big.Int).Rsh(f.span(), 1)).Int64()
}

func (f entry) most() int64 { return f.least() + f.span().Int64() - 1 }

// valueIn is what stands in a payload: its bytes as digits of the base 256, and less all that there is room for, if it is beyond the most.
func (f entry) valueIn(payload []byte) int64 {
	sum := new(big.Int).SetBytes(payload[f.place : f.place+f.length])
	if sum.Cmp(big.NewInt(f.most())) > 0 {
		sum.Sub(sum, f.span())
	}
	return sum.Int64()
}

// lay puts a value that fits in a payload.
func (f entry) lay(payload []byte, value int64) {
	rest := new(big.Int).Mod(big.NewInt(value), f.span())
	rest.FillBytes(payload[f.place : f.place+f.length])
}

// decodeOf is what Decode must tell.
func decodeOf(payload []byte) (api.Sirf, api.Errno) {
	if len(payload) == 0 {
		return api.Sirf{}, api.ErrShort
	}
	r := rowOf(payload[0])
	if r == nil {
		return api.Sirf{}, api.ErrNone
	}
	if len(payload) != r.length {
		return api.Sirf{}, api.ErrForm
	}
	s := api.Sirf{MID: r.mid}
	for _, f := range r.entries {
		s.V = append(s.V, f.valueIn(payload))
	}
	return s, api.OK
}

// payloadOf is what Payload must tell.
func payloadOf(s api.Sirf) ([]byte, api.Errno) {
	r := rowOf(s.MID)
	if r == nil {
		return nil, api.ErrNone
	}
	if len(s.V) != len(r.entries) {
		return nil, api.ErrArg
	}
	payload := make([]byte, r.length)
	payload[0] = s.MID
	for i, f := range r.entries {
		if s.V[i] < f.least() || s.V[i] > f.most() {
			return nil, api.ErrArg
		}
		f.lay(payload, s.V[i])
	}
	return payload, api.OK
}

// frameOf is the frame about a payload.
func frameOf(payload []byte) []byte {
	sum := 0
	for _, x := range payload {
		sum += int(x)
	}
	sum %= 32768
	out := append([]byte{0xA0, 0xA2, byte(len(payload) / 256), byte(len(payload) % 256)}, payload...)
	return append(out, byte(sum/256), byte(sum%256), 0xB0, 0xB3)
}

func sameMessage(a, b api.Sirf) bool { return a.MID == b.MID && slices.Equal(a.V, b.V) }

func noMessage(s api.Sirf) bool { return s.MID == 0 && len(s.V) == 0 }

// wantDecode asks Decode twice for what the model tells, with memory of its own each time, and that the payload stays.
func wantDecode(t *testing.T, payload []byte) {
	t.Helper()
	want, e := decodeOf(payload)
	kept := slices.Clone(payload)
	for range 2 {
		got, err := Decode(payload)
		if err != e || !sameMessage(got, want) {
			t.Fatalf("Decode of %x: %v, %d, want %v, %d", kept, got, err, want, e)
		}
		for i := range got.V[:cap(got.V)] {
			got.V[:cap(got.V)][i] = -7
		}
		if !bytes.Equal(payload, kept) {
			t.Fatalf("Decode of %x: the payload is %x then", kept, payload)
		}
	}
}

// wantWritten asks Payload and Encode twice for what the model tells, with memory of its own each time, and that the message stays.
func wantWritten(t *testing.T, s api.Sirf) {
	t.Helper()
	payload, e := payloadOf(s)
	var all []byte
	if e == api.OK {
		all = frameOf(payload)
	}
	wantBytes(t, "Payload", Payload, s, payload, e)
	wantBytes(t, "Encode", Encode, s, all, e)
}

func wantBytes(t *testing.T, name string, call func(api.Sirf) ([]byte, api.Errno), s api.Sirf, want []byte, e api.Errno) {
	t.Helper()
	kept := slices.Clone(s.V)
	for range 2 {
		got, err := call(s)
		if err != e || !bytes.Equal(got, want) {
			t.Fatalf("%s of %v: %x, %d, want %x, %d", name, s, got, err, want, e)
		}
		// Were it told again out of the same memory, or were there a table below, the next one would be another one.
		for i := range got[:cap(got)] {
			got[:cap(got)][i] = 200
		}
		if !slices.Equal(s.V, kept) {
			t.Fatalf("%s of %v: the values are %v then", name, kept, s.V)
		}
	}
}

// wantFits asks Payload and Encode for an error alone, and that nothing is told beside one.
func wantFits(t *testing.T, s api.Sirf, want api.Errno) {
	t.Helper()
	if b, e := Payload(s); e != want || (len(b) == 0) != (want != api.OK) {
		t.Fatalf("Payload of %v: %x, %d, want %d", s, b, e, want)
	}
	if b, e := Encode(s); e != want || (len(b) == 0) != (want != api.OK) {
		t.Fatalf("Encode of %v: %x, %d, want %d", s, b, e, want)
	}
}

// payloadWith is a row's payload whose bytes behind the first one are all the same.
func (r row) payloadWith(x byte) []byte {
	out := bytes.Repeat([]byte{x}, r.length)
	out[0] = r.mid
	return out
}

// drawnPayload is a row's payload of drawn bytes behind the first one.
func (r row) drawnPayload(random *rand.Rand) []byte {
	out := make([]byte, r.length)
	random.Read(out)
	out[0] = r.mid
	return out
}

// drawnValue is a value that fits: at an edge, near one, or anywhere.
func (f entry) drawnValue(random *rand.Rand) int64 {
	switch random.Intn(5) {
	case 0:
		return f.least()
	case 1:
		return f.most()
	case 2:
		return min(f.least()+random.Int63n(300), f.most())
	}
	return f.least() + random.Int63n(f.span().Int64())
}

// drawnMessage is a message of a row's kind whose values fit.
func drawnMessage(random *rand.Rand, r row) api.Sirf {
	s := api.Sirf{MID: r.mid}
	for _, f := range r.entries {
		s.V = append(s.V, f.drawnValue(random))
	}
	return s
}

// middle is a message of a row's kind that has no value at an edge.
func middle(r row) api.Sirf {
	s := api.Sirf{MID: r.mid}
	for i := range r.entries {
		s.V = append(s.V, int64(3+i))
	}
	return s
}

// withValue is a message with another value at a place.
func withValue(s api.Sirf, at int, value int64) api.Sirf {
	s.V = slices.Clone(s.V)
	s.V[at] = value
	return s
}

// TestTable asks that the tests' table is all that the chapter lists, and that fields stand apart and behind the first byte.
func TestTable(t *testing.T) {
	told := ""
	for _, r := range rows {
		told += fmt.Sprint(r.mid, " ", r.length, " ", len(r.entries), ";")
	}
	const want = "2 41 12;4 188 3;7 20 6;41 91 10;52 19 9;11 2 1;12 2 1;166 8 3;"
	if told != want {
		t.Fatal(told)
	}
	for _, r := range rows {
		taken := make([]int, r.length)
		taken[0]++
		for _, f := range r.entries {
			for i := range f.length {
				taken[f.place+i]++
			}
		}
		if slices.Max(taken) > 1 {
			t.Errorf("%s: fields stand one in the other: %v", r.name, taken)
		}
	}
}
