package message

import (
	"bytes"
	"regexp"
	"slices"
	"strconv"
	"strings"
	"testing"
	"time"

	"remontoire/api"
	"remontoire/nmea"
)

// What the tests hold the package against: the chapters' tables of bytes, read as text, the library's calendar, and the rows of layer 15's table over them.

// table is the rows of the tables of layers 12 and 13 that tell time: frame, what its body begins with, name, its payload's length, fields.
const table = `
2 | 1 7 | PVT | 92 | TOW 0, 4; year 4, 2; month 6, 1; day 7, 1; hour 8, 1; minute 9, 1; second 10, 1; valid 11, 1; accuracy 12, 4; nano 16, 4 s; fix 20, 1; flags 21, 1
2 | 1 32 | TIMEGPS | 16 | TOW 0, 4; fraction 4, 4 s; week 8, 2; leaps 10, 1 s; valid 11, 1; accuracy 12, 4
2 | 1 33 | TIMEUTC | 20 | TOW 0, 4; accuracy 4, 4; nano 8, 4 s; year 12, 2; month 14, 1; day 15, 1; hour 16, 1; minute 17, 1; second 18, 1; valid 19, 1
2 | 13 1 | TIM-TP | 16 | TOW 0, 4; below 4, 4; error 8, 4 s; week 12, 2; flags 14, 1; reference 15, 1
3 | 2 | SIRF2 | 41 | x 1, 4 s; y 5, 4 s; z 9, 4 s; vx 13, 2 s; vy 15, 2 s; vz 17, 2 s; mode 19, 1; dilution 20, 1; more 21, 1; week 22, 2; TOW 24, 4; satellites 28, 1
3 | 4 | SIRF4 | 188 | week 1, 2 s; TOW 3, 4; channels 7, 1
3 | 7 | SIRF7 | 20 | week 1, 2; TOW 3, 4; satellites 7, 1; drift 8, 4; bias 12, 4; time 16, 4
3 | 41 | SIRF41 | 91 | not valid 1, 2; type 3, 2; week 5, 2; TOW 7, 4; year 11, 2; month 13, 1; day 14, 1; hour 15, 1; minute 16, 1; second 17, 2
3 | 52 | SIRF52 | 19 | hour 1, 1; minute 2, 1; second 3, 1; day 4, 1; month 5, 1; year 6, 2; offset 8, 2 s; fraction 10, 4; status 14, 1
`

// entry is where a field stands in a payload.
type entry struct {
	name          string
	place, length int
	signed        bool
}

// shape is a row of the table.
type shape struct {
	frame   uint8
	head    []byte // of a UBX body what stands ahead of the payload, of a SiRF body what the payload begins with
	name    string
	length  int
	entries []entry
}

// shapes are the table's rows, in its order.
var shapes = readTable()

var entryForm = regexp.MustCompile(`^([A-Za-z ]+) (\d+), ([124])( s)?$`)

func readTable() []shape {
	var out []shape
	for _, line := range strings.Split(strings.TrimSpace(table), "\n") {
		part := strings.Split(line, " | ")
		s := shape{frame: uint8(number(part[0])), name: part[2], length: number(part[3])}
		for _, x := range strings.Fields(part[1]) {
			s.head = append(s.head, byte(number(x)))
		}
		for _, x := range strings.Split(part[4], "; ") {
			f := entryForm.FindStringSubmatch(x)
			s.entries = append(s.entries, entry{f[1], number(f[2]), number(f[3]), f[4] != ""})
		}
		out = append(out, s)
	}
	return out
}

func number(s string) int {
	n, err := strconv.Atoi(s)
	if err != nil {
		panic(err)
	}
	return n
}

// named is the shape of that name.
func named(name string) shape {
	for _, s := range shapes {
		if s.name == name {
			return s
		}
	}
	panic(name)
}

// shapeOf is the shape of a frame; none, if its kind, what it begins with, or its length is none of the table.
func shapeOf(f api.Frame) *shape {
	for i, s := range shapes {
		if s.frame == f.Kind && bytes.HasPrefix(f.Body, s.head) && len(f.Body) == s.bodyLength() {
			return &shapes[i]
		}
	}
	return nil
}

// payloadAt is where the payload begins in a body.
func (s shape) payloadAt() int {
	if s.frame == api.FrameUBX {
		return 2
	}
	return 0
}

func (s shape) bodyLength() int { return s.payloadAt() + s.length }

func (s shape) field(name string) entry {
	for _, e := range s.entries {
		if e.name == name {
			return e
		}
	}
	panic(s.name + " has no " + name)
}

// digit is the place in a body of a field's byte that is worth 256 to the power of i.
func (s shape) digit(e entry, i int) int {
	if s.frame == api.FrameUBX {
		return s.payloadAt() + e.place + i
	}
	return s.payloadAt() + e.place + e.length - 1 - i
}

// get is a field's value in a body.
func (s shape) get(body []byte, name string) int64 {
	e := s.field(name)
	value, room := int64(0), int64(1)
	for i := range e.length {
		value += room * int64(body[s.digit(e, i)])
		room *= 256
	}
	if e.signed && value >= room/2 {
		value -= room
	}
	return value
}

// put lays a value in a field of a body.
func (s shape) put(body []byte, name string, value int64) {
	e := s.field(name)
	for i := range e.length {
		body[s.digit(e, i)] = byte(value >> (8 * i))
	}
	if s.get(body, name) != value {
		panic(s.name + ": " + name + " has no room for " + strconv.FormatInt(value, 10))
	}
}

// values are fields' values by their names.
type values map[string]int64

// with is a frame of noughts but for those values; of two of the same name the last one stands.
func (s shape) with(l ...values) api.Frame {
	body := make([]byte, s.bodyLength())
	copy(body, s.head)
	for _, v := range l {
		for name, value := range v {
			s.put(body, name, value)
		}
	}
	return api.Frame{Kind: s.frame, Body: body}
}

// epoch is the UTC second of 1970, with which the library begins.
const epoch = 2_208_988_800

// modelUTC is the UTC second of a date, an hour, a minute and a second, by the library's calendar: that moves what is no date, so it must stand as it was.
func modelUTC(year, month, day, hour, minute, second int64) (api.Msg, bool) {
	if year < 1980 || year > 2199 || second < 0 || second > 60 {
		return api.Msg{}, false
	}
	shown := second
	if second == 60 {
		shown = 59
	}
	at := time.Date(int(year), time.Month(month), int(day), int(hour), int(minute), int(shown), 0, time.UTC)
	stands := []int{at.Year(), int(at.Month()), at.Day(), at.Hour(), at.Minute(), at.Second()}
	if !slices.Equal(stands, []int{int(year), int(month), int(day), int(hour), int(minute), int(shown)}) {
		return api.Msg{}, false
	}
	return api.Msg{UTC: true, Sec: at.Unix() + epoch, Leap: second == 60}, true
}

// modelGPS is the GPS second of a week and milliseconds of it.
func modelGPS(week, ms int64) (api.Msg, bool) {
	if ms < 0 || ms > 604_799_999 || ms%1000 > 0 {
		return api.Msg{}, false
	}
	return api.Msg{Sec: week*604_800 + ms/1000}, true
}

// bit is whether a value's bit is 1; the lowest one is 0.
func bit(value int64, at int) bool { return value>>at%2 == 1 }

// model is what Of must tell.
func model(f api.Frame) (api.Msg, bool) {
	if f.Kind == api.FrameNMEA {
		return modelNMEA(string(f.Body))
	}
	s := shapeOf(f)
	if s == nil {
		return api.Msg{}, false
	}
	get := func(name string) int64 { return s.get(f.Body, name) }
	var m api.Msg
	asked, ok := false, false // as its row asks; there is such a second
	utc := func(second int64) {
		m, ok = modelUTC(get("year"), get("month"), get("day"), get("hour"), get("minute"), second)
	}
	switch s.name {
	case "PVT":
		asked = bit(get("valid"), 0) && bit(get("valid"), 1) && bit(get("valid"), 2) && bit(get("flags"), 0)
		asked = asked && (get("fix") == 3 || get("fix") == 4 || get("fix") == 5) && get("nano") == 0
		utc(get("second"))
		m.Kind = 3
	case "TIMEGPS":
		asked = bit(get("valid"), 0) && bit(get("valid"), 1) && get("fraction") == 0
		m, ok = modelGPS(get("week"), get("TOW"))
		m.Kind = 4
	case "TIMEUTC":
		asked = bit(get("valid"), 2) && get("nano") == 0
		utc(get("second"))
		m.Kind = 5
	case "TIM-TP":
		asked = !bit(get("flags"), 0) && get("below") == 0
		m, ok = modelGPS(get("week"), get("TOW"))
		m.Kind, m.Next = 6, true
	case "SIRF2":
		mode := get("mode") % 8
		asked = mode == 3 || mode == 4 || mode == 5 || mode == 6
		m, ok = modelGPS(get("week")%1024, 10*get("TOW"))
		m.Kind, m.Cycle = 7, 1024
	case "SIRF4":
		asked = get("channels") > 3
		m, ok = modelGPS((get("week")+65536)%1024, 10*get("TOW"))
		m.Kind, m.Cycle = 8, 1024
	case "SIRF7":
		asked = get("satellites") > 3
		m, ok = modelGPS(get("week"), 10*get("TOW"))
		m.Kind = 9
	case "SIRF41":
		asked = get("not valid") == 0 && get("second")%1000 == 0
		utc(get("second") / 1000)
		m.Kind = 10
	case "SIRF52":
		asked = bit(get("status"), 0) && bit(get("status"), 1)
		utc(get("second"))
		m.Kind = 11
	}
	if !asked || !ok {
		return api.Msg{}, false
	}
	return m, true
}

var (
	wholeForm = regexp.MustCompile(`^([0-9]{2})([0-9]{2})([0-9]{2})(?:\.0+)?$`)
	dateForm  = regexp.MustCompile(`^([0-9]{2})([0-9]{2})([0-9]{2})$`)
)

// modelNMEA is the same of a sentence; what is taken is layer 10's to say.
func modelNMEA(body string) (api.Msg, bool) {
	if _, e := nmea.Parse(body); e != api.OK {
		return api.Msg{}, false
	}
	field := strings.Split(body, ",")
	at := func(form *regexp.Regexp, s string) []int64 {
		var out []int64
		for i, x := range form.FindStringSubmatch(s) {
			if i > 0 {
				out = append(out, int64(number(x)))
			}
		}
		return out
	}
	var m api.Msg
	ok := false
	switch field[0][2:] {
	case "RMC":
		clock, date := at(wholeForm, field[1]), at(dateForm, field[9])
		if clock == nil || date == nil || field[2] != "A" {
			return api.Msg{}, false
		}
		m, ok = modelUTC(2000+date[2], date[1], date[0], clock[0], clock[1], clock[2])
		m.Kind, m.Cycle = 1, 100
	case "ZDA":
		clock := at(wholeForm, field[1])
		if clock == nil || field[2] == "" || field[3] == "" || field[4] == "" {
			return api.Msg{}, false
		}
		m, ok = modelUTC(int64(number(field[4])), int64(number(field[3])), int64(number(field[2])), clock[0], clock[1], clock[2])
		m.Kind = 2
	}
	if !ok {
		return api.Msg{}, false
	}
	return m, true
}

// want asks Of twice for a message, or none, and that the frame stays.
func want(t *testing.T, f api.Frame, m api.Msg, ok bool) {
	t.Helper()
	kept := bytes.Clone(f.Body)
	for range 2 {
		if got, told := Of(f); got != m || told != ok {
			t.Fatalf("Of kind %d, %s:\n got %+v, %t\nwant %+v, %t", f.Kind, shown(kept), got, told, m, ok)
		}
		if !bytes.Equal(f.Body, kept) {
			t.Fatalf("Of kind %d, %s: the body is %s then", f.Kind, shown(kept), shown(f.Body))
		}
	}
}

func wantNone(t *testing.T, f api.Frame) {
	t.Helper()
	want(t, f, api.Msg{}, false)
}

// wantIf asks for a message where ok holds, else for none.
func wantIf(t *testing.T, f api.Frame, m api.Msg, ok bool) {
	t.Helper()
	if !ok {
		m = api.Msg{}
	}
	want(t, f, m, ok)
}

func wantAsModel(t *testing.T, f api.Frame) {
	t.Helper()
	m, ok := model(f)
	want(t, f, m, ok)
}

func shown(body []byte) string { return strconv.QuoteToASCII(string(body)) }

func sentence(body string) api.Frame { return api.Frame{Kind: api.FrameNMEA, Body: []byte(body)} }

// ordinary is a frame of each shape that is told, by its fields, and the message that it tells, written out by hand.
var ordinary = []struct {
	shape string
	values
	told api.Msg
}{
	{"PVT", values{"TOW": 1, "year": 2020, "month": 1, "day": 1, "second": 5, "valid": 7, "fix": 3, "flags": 1}, api.Msg{Kind: 3, UTC: true, Sec: 3_786_825_605}},
	{"TIMEGPS", values{"TOW": 6000, "week": 2000, "valid": 3}, api.Msg{Kind: 4, Sec: 1_209_600_006}},
	{"TIMEUTC", values{"TOW": 1, "year": 2016, "month": 12, "day": 31, "hour": 23, "minute": 59, "second": 60, "valid": 4}, api.Msg{Kind: 5, UTC: true, Sec: 3_692_217_599, Leap: true}},
	{"TIM-TP", values{"TOW": 6000, "week": 2000}, api.Msg{Kind: 6, Sec: 1_209_600_006, Next: true}},
	{"SIRF2", values{"mode": 4, "week": 1000, "TOW": 700}, api.Msg{Kind: 7, Sec: 604_800_007, Cycle: 1024}},
	{"SIRF4", values{"channels": 4, "week": 1000, "TOW": 700}, api.Msg{Kind: 8, Sec: 604_800_007, Cycle: 1024}},
	{"SIRF7", values{"satellites": 4, "week": 2000, "TOW": 700}, api.Msg{Kind: 9, Sec: 1_209_600_007}},
	{"SIRF41", values{"year": 2000, "month": 2, "day": 29, "hour": 12, "second": 1000, "week": 9, "TOW": 9}, api.Msg{Kind: 10, UTC: true, Sec: 3_160_814_401}},
	{"SIRF52", values{"year": 2002, "month": 7, "day": 4, "hour": 20, "minute": 15, "second": 30, "status": 3}, api.Msg{Kind: 11, UTC: true, Sec: 3_234_802_530}},
}

// ordinaryOf is the fields of a shape's frame that is told, and its message.
func ordinaryOf(name string) (values, api.Msg) {
	for _, x := range ordinary {
		if x.shape == name {
			return x.values, x.told
		}
	}
	panic(name)
}

// The sentences that are told, and their messages.
const (
	ordinaryRMC = "GPRMC,123519,A,4807.038,N,01131.000,E,022.4,084.4,230394,003.1,W"
	ordinaryZDA = "GPZDA,201530.00,04,07,2002,00,00"
)

var (
	toldRMC = api.Msg{Kind: 1, UTC: true, Sec: 6_129_174_919, Cycle: 100}
	toldZDA = api.Msg{Kind: 2, UTC: true, Sec: 3_234_802_530}
)

// told are a frame of each of the eleven kinds, and their messages.
func told() ([]api.Frame, []api.Msg) {
	frames := []api.Frame{sentence(ordinaryRMC), sentence(ordinaryZDA)}
	messages := []api.Msg{toldRMC, toldZDA}
	for _, x := range ordinary {
		frames = append(frames, named(x.shape).with(x.values))
		messages = append(messages, x.told)
	}
	return frames, messages
}

// rmc and zda are sentences of a time and a date, and of nothing else.
func rmc(clock, date string) api.Frame { return sentence("GPRMC," + clock + ",A,,,,,,," + date + ",,") }

func zda(clock, day, month, year string) api.Frame {
	return sentence("GPZDA," + clock + "," + day + "," + month + "," + year + ",00,00")
}

// two is a number of at least two digits.
func two(n int) string {
	if n < 10 {
		return "0" + strconv.Itoa(n)
	}
	return strconv.Itoa(n)
}
