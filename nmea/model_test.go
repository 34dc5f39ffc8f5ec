package nmea

import (
	"math/big"
	"math/rand"
	"regexp"
	"strconv"
	"strings"
	"testing"

	"remontoire/api"
)

// form is what a field may be: its pattern, and how many bytes it has at most.
type form struct {
	pattern *regexp.Regexp
	longest int
}

func formOf(pattern string, longest int) form {
	return form{regexp.MustCompile(`\A(?:` + pattern + `)\z`), longest}
}

func (f form) takes(s string) bool { return len(s) <= f.longest && f.pattern.MatchString(s) }

// The forms of fields; their bounds stand in the patterns.
var (
	anyForm       = formOf(`(?s:.*)`, 1<<30)
	timeForm      = formOf(`(?:[01][0-9]|2[0-3])[0-5][0-9](?:[0-5][0-9]|60)(?:\.[0-9]+)?`, 20)
	dateForm      = formOf(`(?:0[1-9]|[12][0-9]|3[01])(?:0[1-9]|1[0-2])[0-9][0-9]`, 20)
	latForm       = formOf(`[0-8][0-9][0-5][0-9](?:\.[0-9]+)?|9000(?:\.0{1,5}|\.0{5}[0-9]+)?`, 22)
	lonForm       = formOf(`(?:0[0-9]|1[0-7])[0-9][0-5][0-9](?:\.[0-9]+)?|18000(?:\.0{1,5}|\.0{5}[0-9]+)?`, 23)
	unsignedForm  = formOf(`[0-9]{1,9}(?:\.[0-9]+)?`, 20)
	heightForm    = formOf(`-?[0-9]{1,9}(?:\.[0-9]+)?`, 20)
	qualityForm   = formOf(`0*[0-8]`, 20)
	hundredForm   = formOf(`0*[0-9]{1,2}`, 20)
	modeForm      = formOf(`0*[1-3]`, 20)
	satelliteForm = formOf(`0*[1-9][0-9]{0,2}`, 20)
	dayForm       = formOf(`0*(?:[1-9]|[12][0-9]|3[01])`, 20)
	monthForm     = formOf(`0*(?:[1-9]|1[0-2])`, 20)
	yearForm      = formOf(`19[89][0-9]|2[01][0-9][0-9]`, 20)
	partForm      = formOf(`0*[1-9]`, 20)
	statusForm    = formOf(`[AV]`, 20)
	northForm     = formOf(`[NS]`, 20)
	eastForm      = formOf(`[EW]`, 20)
	choiceForm    = formOf(`[AM]`, 20)
	metresForm    = formOf(`M`, 20)
	trueForm      = formOf(`T`, 20)
	knotsForm     = formOf(`N`, 20)
)

// sentence is a kind of sentence: how many fields it may have, the forms of those that are looked at, from 1 on, and what they tell.
type sentence struct {
	counts []int
	forms  []form
	needed []int
	tell   func(f []string) api.Fix
}

var sentences = map[string]sentence{
	"RMC": {[]int{11, 12, 13}, []form{timeForm, statusForm, latForm, northForm, lonForm, eastForm, unsignedForm, unsignedForm, dateForm}, []int{2}, tellRMC},
	"GGA": {[]int{14}, []form{timeForm, latForm, northForm, lonForm, eastForm, qualityForm, hundredForm, unsignedForm, heightForm, metresForm}, nil, tellGGA},
	"GLL": {[]int{6, 7}, []form{latForm, northForm, lonForm, eastForm, timeForm, statusForm}, []int{6}, tellGLL},
	"GSA": {[]int{17, 18}, []form{choiceForm, modeForm, satelliteForm, satelliteForm, satelliteForm, satelliteForm, satelliteForm, satelliteForm, satelliteForm, satelliteForm, satelliteForm, satelliteForm, satelliteForm, satelliteForm, unsignedForm, unsignedForm, unsignedForm}, []int{1, 2}, tellGSA},
	"ZDA": {[]int{6}, []form{timeForm, dayForm, monthForm, yearForm}, nil, tellZDA},
	"VTG": {[]int{8, 9}, []form{unsignedForm, trueForm, anyForm, anyForm, unsignedForm, knotsForm}, nil, tellVTG},
	"GSV": {[]int{3, 4, 7, 8, 11, 12, 15, 16, 19, 20}, []form{partForm, partForm, hundredForm}, []int{1, 2, 3}, tellGSV},
}

// kindsInOrder are the kinds' letters, so that tests go through them in one order.
var kindsInOrder = []string{"RMC", "GGA", "GLL", "GSA", "ZDA", "VTG", "GSV"}

var firstForm = regexp.MustCompile(`\A[A-Z][A-Z](RMC|GGA|GLL|GSA|ZDA|VTG|GSV)\z`)

// byCommas is what stands between commas.
func byCommas(s string) []string {
	out := []string{""}
	for i := range len(s) {
		if s[i] == ',' {
			out = append(out, "")
			continue
		}
		out[len(out)-1] += s[i : i+1]
	}
	return out
}

// model is what Parse must tell, by patterns and unbounded numbers.
func model(body string) (api.Fix, api.Errno) {
	f := byCommas(body)
	first := firstForm.FindStringSubmatch(f[0])
	if first == nil {
		return api.Fix{}, api.ErrNone
	}
	s := sentences[first[1]]
	if e := s.count(len(f) - 1); e != api.OK {
		return api.Fix{}, e
	}
	for i, form := range s.forms {
		if f[i+1] != "" && !form.takes(f[i+1]) {
			return api.Fix{}, api.ErrForm
		}
	}
	for _, i := range s.needed {
		if f[i] == "" {
			return api.Fix{}, api.ErrForm
		}
	}
	if first[1] == "GSV" && whole(f[2]) > whole(f[1]) {
		return api.Fix{}, api.ErrForm
	}
	return s.tell(f), api.OK
}

// count is what so many fields are told.
func (s sentence) count(n int) api.Errno {
	for _, x := range s.counts {
		if x == n {
			return api.OK
		}
	}
	switch {
	case n < s.counts[0]:
		return api.ErrShort
	case n > s.counts[len(s.counts)-1]:
		return api.ErrLong
	}
	return api.ErrForm
}

func tellRMC(f []string) api.Fix {
	fix := positioned(f[3:7])
	fix.Kind, fix.Valid = 1, f[2] == "A"
	fix.HasTime, fix.Time = f[1] != "", timeOf(f[1])
	fix.Speed, fix.Course = scaled(f[7], 3), scaled(f[8], 2)
	if f[9] != "" {
		fix.HasDate, fix.Day, fix.Month, fix.Year = true, whole(f[9][:2]), whole(f[9][2:4]), whole(f[9][4:])
	}
	return fix
}

func tellGGA(f []string) api.Fix {
	fix := positioned(f[2:6])
	fix.Kind, fix.Quality, fix.Sats = 2, whole(f[6]), whole(f[7])
	fix.Valid = fix.Quality != 0
	fix.HasTime, fix.Time = f[1] != "", timeOf(f[1])
	fix.HDOP, fix.Height = scaled(f[8], 2), scaled(f[9], 3)
	return fix
}

func tellGLL(f []string) api.Fix {
	fix := positioned(f[1:5])
	fix.Kind, fix.Valid = 3, f[6] == "A"
	fix.HasTime, fix.Time = f[5] != "", timeOf(f[5])
	return fix
}

func tellGSA(f []string) api.Fix {
	fix := api.Fix{Kind: 4, Mode: whole(f[2]), PDOP: scaled(f[15], 2), HDOP: scaled(f[16], 2), VDOP: scaled(f[17], 2)}
	fix.Valid = fix.Mode != 1
	for _, satellite := range f[3:15] {
		if satellite != "" {
			fix.Sats++
		}
	}
	return fix
}

func tellZDA(f []string) api.Fix {
	fix := api.Fix{Kind: 5, Day: whole(f[2]), Month: whole(f[3]), Year: whole(f[4])}
	fix.HasTime, fix.Time = f[1] != "", timeOf(f[1])
	fix.HasDate = f[2] != "" && f[3] != "" && f[4] != ""
	fix.Valid = fix.HasTime && fix.HasDate
	return fix
}

func tellVTG(f []string) api.Fix {
	return api.Fix{Kind: 6, Valid: true, Course: scaled(f[1], 2), Speed: scaled(f[5], 3)}
}

func tellGSV(f []string) api.Fix {
	return api.Fix{Kind: 7, Valid: true, Parts: whole(f[1]), Part: whole(f[2]), Sats: whole(f[3])}
}

// positioned is a fix with the position of latitude, its side, longitude, its side.
func positioned(f []string) api.Fix {
	if f[0] == "" || f[1] == "" || f[2] == "" || f[3] == "" {
		return api.Fix{}
	}
	fix := api.Fix{HasPos: true, Lat: unitsOf(f[0], 2), Lon: unitsOf(f[2], 3)}
	if f[1] == "S" {
		fix.Lat = -fix.Lat
	}
	if f[3] == "W" {
		fix.Lon = -fix.Lon
	}
	return fix
}

// scaled is a number of a field times a power of ten, what is beyond left away; 0 of an empty one.
func scaled(s string, places int64) int64 {
	if s == "" {
		return 0
	}
	n, ok := new(big.Rat).SetString(s)
	if !ok {
		panic("no number: " + s)
	}
	n.Mul(n, new(big.Rat).SetInt(new(big.Int).Exp(big.NewInt(10), big.NewInt(places), nil)))
	return new(big.Int).Quo(n.Num(), n.Denom()).Int64()
}

func whole(s string) int { return int(scaled(s, 0)) }

// unitsOf is degrees of so many digits and minutes, in 1/100000 minutes.
func unitsOf(s string, digits int) int64 {
	return int64(whole(s[:digits]))*6_000_000 + scaled(s[digits:], 5)
}

func timeOf(s string) api.DayTime {
	if s == "" {
		return api.DayTime{}
	}
	return api.DayTime{H: whole(s[:2]), M: whole(s[2:4]), S: whole(s[4:6]), Whole: strings.Trim(s[6:], ".0") == ""}
}

// want asks for a fix, or an error.
func want(t *testing.T, body string, fix api.Fix, err api.Errno) {
	t.Helper()
	if got, e := Parse(body); got != fix || e != err {
		t.Errorf("Parse of %q:\n got %+v, %d\nwant %+v, %d", body, got, e, fix, err)
	}
}

func wantError(t *testing.T, body string, err api.Errno) {
	t.Helper()
	want(t, body, api.Fix{}, err)
}

func wantAsModel(t *testing.T, body string) {
	t.Helper()
	fix, e := model(body)
	want(t, body, fix, e)
}

// bodyOf is a sentence's body of a kind and its fields.
func bodyOf(kind string, fields []string) string {
	return strings.Join(append([]string{"GP" + kind}, fields...), ",")
}

// with is a list with another text at a field's place, which is counted from 1 on.
func with(fields []string, at int, s string) []string {
	out := append([]string(nil), fields...)
	out[at-1] = s
	return out
}

// ordinary are the fields of a sentence of each kind in which all of them are there.
var ordinary = map[string][]string{
	"RMC": {"123519", "A", "4807.038", "N", "01131.000", "E", "022.4", "084.4", "230394", "003.1", "W"},
	"GGA": {"123519", "4807.038", "N", "01131.000", "E", "1", "08", "0.9", "545.4", "M", "46.9", "M", "1", "0120"},
	"GLL": {"4916.45", "N", "12311.12", "W", "225444", "A"},
	"GSA": {"A", "3", "04", "05", "06", "09", "12", "14", "17", "20", "24", "25", "29", "31", "2.5", "1.3", "2.1"},
	"ZDA": {"201530.00", "04", "07", "2002", "00", "00"},
	"VTG": {"054.7", "T", "034.4", "M", "005.5", "N", "010.2", "K"},
	"GSV": {"2", "1", "08", "01", "40", "083", "46"},
}

// short are texts that some fields may be, or nearly.
var short = []string{
	"", "0", "1", "2", "3", "4", "8", "9", "10", "12", "13", "31", "32", "99", "100", "999", "1000", "00", "01", "000", "008", "009", "0099", "00100", "000999", "001000",
	"1979", "1980", "1999", "2000", "2100", "2199", "2200", "01980", "02199", "198", "19800", "0001", "9999",
	"A", "V", "N", "S", "E", "W", "M", "T", "K", "D", "a", "v", "n", "s", "e", "w", "m", "t", "AA", "NS", "EW", "AV", "NN", "MM", "TT", " A", "A ", "B", "Z",
	"0.5", ".5", "5.", "-0.5", "-5", "-0", "+5", "--5", "-", ".", "..", "0.000", "0.9999", "1e3", "1,5", "12.3456", "999999999", "1000000000", "0000000001", "999999999.999", "1000000000.1", "-999999999.999", "-1000000000", "-0.0", "-0.0009", "-0.001",
	"000000", "235959", "235960", "235961", "236000", "240000", "123519", "123519.", "123519.0", "123519.5", "123519.00", "12351", "1235190", "123519.0000000000000", "123519.00000000000000", "12:35:19", "230394", "311299", "321299", "311399", "010180", "000180", "010080",
	"00000", "0000", "0000.0", "9000", "9000.0", "9000.00000", "9000.00001", "9000.000009", "9001", "9100", "8959.99999", "8959.999999", "8960", "8959", "4560", "4559.99999", "4807.038", "4807.", "480.5", "4807.0.3", "-807.0", "48-7.0", "48-0.5", "4807,0", "480", "48", "4", "4x07", "48x7", "480x", "4807x", "4807.x",
	"18000", "18000.0", "18000.00000", "18000.00001", "18000.000009", "18001", "18100", "17959.99999", "17960", "00060", "00059", "01131.000", "01131.", "0113.5", "1131.000", "011", "-1131.0", "011-1.0", "011-0.5",
	"00000000000000000000", "00000000000000000001", "000000000000000000001", "1.000000000000000000", "1.0000000000000000000", "99999999999999999999", "9223372036854775808", "18446744073709551617",
	" ", "\x00", "\xff", "\x80", "*", "$", "\r\n", "1 ", " 1", "0x1", "1_0", "٣", "N\x00", "\x00N", "é",
}

// drawn is one of a list's texts.
func drawn(r *rand.Rand, of []string) string { return of[r.Intn(len(of))] }

// taken are texts that a form takes, of those that are short.
func taken(f form) []string {
	var out []string
	for _, s := range short {
		if s != "" && !strings.Contains(s, ",") && f.takes(s) {
			out = append(out, s)
		}
	}
	return out
}

// drawnFields are n fields, nearly all of them out of the texts that their places take, and each one empty with a chance of one in five.
func drawnFields(r *rand.Rand, places [][]string, n int) []string {
	out := make([]string, n)
	for i := range out {
		switch {
		case r.Intn(5) == 0:
		case r.Intn(40) == 0 || i >= len(places):
			out[i] = drawn(r, short)
		default:
			out[i] = drawn(r, places[i])
		}
	}
	return out
}

// P10.1, P1: drawn sentences of each kind, with the model.
func TestDrawnSentences(t *testing.T) {
	r := rand.New(rand.NewSource(10))
	for _, kind := range kindsInOrder {
		var places [][]string
		for _, f := range sentences[kind].forms {
			places = append(places, taken(f))
		}
		ok := 0
		for range 6000 {
			n := sentences[kind].counts[r.Intn(len(sentences[kind].counts))]
			if r.Intn(20) == 0 {
				n = r.Intn(24)
			}
			body := bodyOf(kind, drawnFields(r, places, n))
			wantAsModel(t, body)
			if _, e := Parse(body); e == api.OK {
				ok++
			}
		}
		if ok < 1000 {
			t.Errorf("%s: of the drawn sentences only %d may be", kind, ok)
		}
	}
}

// P10.1, P1: each text in the place of each field of each kind, with as many fields as the kind may have.
func TestEachTextInEachField(t *testing.T) {
	for _, kind := range kindsInOrder {
		for _, n := range sentences[kind].counts {
			for at := 1; at <= n; at++ {
				for _, s := range short {
					wantAsModel(t, bodyOf(kind, with(ordinaryOf(kind, n), at, s)))
					wantAsModel(t, bodyOf(kind, with(blank(kind, n), at, s)))
				}
			}
		}
	}
}

// P10.1, P1: each byte in each place of a body, in place of a byte and between two.
func TestEachByteInEachPlace(t *testing.T) {
	for _, kind := range kindsInOrder {
		body := bodyOf(kind, ordinary[kind])
		for place := 0; place <= len(body); place++ {
			for x := range 256 {
				one := string([]byte{byte(x)})
				wantAsModel(t, body[:place]+one+body[place:])
				if place < len(body) {
					wantAsModel(t, body[:place]+one+body[place+1:])
				}
			}
		}
	}
}

// P10.1, P1: drawn bytes, and what is left of a body that is cut.
func TestDrawnBytes(t *testing.T) {
	r := rand.New(rand.NewSource(11))
	for range 20000 {
		body := make([]byte, r.Intn(40))
		for i := range body {
			body[i] = ",,,,GPRMCZDAVTS0123459.-N\xff"[r.Intn(26)]
		}
		wantAsModel(t, string(body))
		wantAsModel(t, "GP"+drawn(r, kindsInOrder)+","+string(body))
	}
	for _, kind := range kindsInOrder {
		body := bodyOf(kind, ordinary[kind])
		for n := range body {
			wantAsModel(t, body[:n])
			wantAsModel(t, body[n:])
		}
	}
}

// ordinaryOf are n fields of an ordinary sentence, with more behind them, if it has fewer.
func ordinaryOf(kind string, n int) []string {
	out := append([]string(nil), ordinary[kind]...)
	for i := len(out); i < n; i++ {
		out = append(out, strconv.Itoa(i))
	}
	return out[:n]
}

// blank are n fields of which only those are there that must be.
func blank(kind string, n int) []string {
	out := make([]string, n)
	for _, at := range sentences[kind].needed {
		out[at-1] = ordinary[kind][at-1]
	}
	return out
}
