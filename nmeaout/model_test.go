package nmeaout

import (
	"bytes"
	"fmt"
	"testing"
	"time"

	"remontoire/api"
	"remontoire/frame"
	"remontoire/ring"
)

// What the tests hold the package against: the chapter's texts, laid by formats and by the library's calendar.

// letters are the kinds' letters and numbers, as the chapter's words list them, by layer 10's numbers.
var letters = map[uint8]struct {
	text   string
	number int
}{1: {"RMC", 4}, 2: {"GGA", 0}, 3: {"GLL", 1}, 4: {"GSA", 2}, 5: {"ZDA", 8}, 6: {"VTG", 5}, 7: {"GSV", 3}}

// since1900 is the UTC second of 1970-01-01 00:00:00.
const since1900 = 2_208_988_800

// rowOf is the bytes of the sentence with that body.
func rowOf(body string) []byte {
	sum := byte(0)
	for i := range len(body) {
		sum ^= body[i]
	}
	return fmt.Appendf(nil, "$%s*%02X\r\n", body, sum)
}

// rateOf is the body of a u-blox receiver's command.
func rateOf(kind uint8, every int) string {
	return fmt.Sprintf("PUBX,40,%s,0,%d,0,0,0,0", letters[kind].text, every)
}

// askOf is the body of a SiRF receiver's command.
func askOf(kind uint8, every int) string {
	return fmt.Sprintf("PSRF103,%02d,0,%02d,1", letters[kind].number, every)
}

// clockOf is the body of the sentence that tells a second.
func clockOf(sec int64, valid bool) string {
	if !valid {
		return "GPZDA,,,,,00,00"
	}
	return time.Unix(sec-since1900, 0).UTC().Format("GPZDA,150405,02,01,2006") + ",00,00"
}

// secondOf is the UTC second of a moment, by the library's calendar.
func secondOf(year, month, day, hour, minute, second int) int64 {
	return time.Date(year, time.Month(month), day, hour, minute, second, 0, time.UTC).Unix() + since1900
}

// wantRow asks a call twice for the sentence with that body, with memory of its own each time.
func wantRow(t *testing.T, name string, call func() ([]byte, api.Errno), body string) {
	t.Helper()
	want := rowOf(body)
	for range 2 {
		got, e := call()
		if e != api.OK || !bytes.Equal(got, want) {
			t.Fatalf("%s: %q, %d, want %q", name, got, e, want)
		}
		// Were it told again out of the same memory, or were there a table below, the next one would be another one.
		for i := range got[:cap(got)] {
			got[:cap(got)][i] = 200
		}
	}
}

// wantError asks a call for an error, and for nothing beside it.
func wantError(t *testing.T, name string, call func() ([]byte, api.Errno), want api.Errno) {
	t.Helper()
	if got, e := call(); e != want || len(got) != 0 {
		t.Fatalf("%s: %q, %d, want %d", name, got, e, want)
	}
}

// wantTaken asks that a row is taken out of a ring as NMEA frames with these bodies, in this order, and leaves nothing behind.
func wantTaken(t *testing.T, row []byte, bodies ...string) {
	t.Helper()
	r, e := ring.New(max(len(row), api.MinRing))
	if e != api.OK {
		t.Fatal(e)
	}
	if lost := r.Put(row); lost != 0 {
		t.Fatalf("%q: %d bytes had no room", row, lost)
	}
	frames, dropped := frame.All(r)
	if len(frames) != len(bodies) || dropped != 0 || r.Len() != 0 {
		t.Fatalf("%q: %d frames, %d dropped, %d left", row, len(frames), dropped, r.Len())
	}
	for i, f := range frames {
		if f.Kind != api.FrameNMEA || string(f.Body) != bodies[i] {
			t.Fatalf("%q: kind %d, %q, want %q", row, f.Kind, f.Body, bodies[i])
		}
	}
}

func sentenceCall(body string) (string, func() ([]byte, api.Errno)) {
	return fmt.Sprintf("Sentence of %q", body), func() ([]byte, api.Errno) { return Sentence(body) }
}

func rateCall(kind uint8, every int) (string, func() ([]byte, api.Errno)) {
	return fmt.Sprintf("Rate of %d, %d", kind, every), func() ([]byte, api.Errno) { return Rate(kind, every) }
}

func askCall(kind uint8, every int) (string, func() ([]byte, api.Errno)) {
	return fmt.Sprintf("Ask of %d, %d", kind, every), func() ([]byte, api.Errno) { return Ask(kind, every) }
}

func clockCall(sec int64, valid bool) (string, func() ([]byte, api.Errno)) {
	return fmt.Sprintf("Clock of %d, %t", sec, valid), func() ([]byte, api.Errno) { return Clock(sec, valid) }
}

// wantSentence asks Sentence for the sentence with that body, which a ring gives back.
func wantSentence(t *testing.T, body string) {
	t.Helper()
	name, call := sentenceCall(body)
	wantRow(t, name, call, body)
	row, _ := Sentence(body)
	wantTaken(t, row, body)
}

func wantNoSentence(t *testing.T, body string, want api.Errno) {
	t.Helper()
	name, call := sentenceCall(body)
	wantError(t, name, call, want)
}

// wantCommands asks Rate and Ask for their commands.
func wantCommands(t *testing.T, kind uint8, every int) {
	t.Helper()
	name, call := rateCall(kind, every)
	wantRow(t, name, call, rateOf(kind, every))
	row, _ := Rate(kind, every)
	wantTaken(t, row, rateOf(kind, every))
	name, call = askCall(kind, every)
	wantRow(t, name, call, askOf(kind, every))
	row, _ = Ask(kind, every)
	wantTaken(t, row, askOf(kind, every))
}

func wantNoCommands(t *testing.T, kind uint8, every int, want api.Errno) {
	t.Helper()
	name, call := rateCall(kind, every)
	wantError(t, name, call, want)
	name, call = askCall(kind, every)
	wantError(t, name, call, want)
}

// wantClock asks Clock for the sentence of a second.
func wantClock(t *testing.T, sec int64, valid bool) {
	t.Helper()
	name, call := clockCall(sec, valid)
	wantRow(t, name, call, clockOf(sec, valid))
}

func wantNoClock(t *testing.T, sec int64) {
	t.Helper()
	for _, valid := range []bool{true, false} {
		name, call := clockCall(sec, valid)
		wantError(t, name, call, api.ErrOver)
	}
}
