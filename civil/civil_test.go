package civil

import (
	"math"
	"math/rand"
	"testing"
	"time"

	"remontoire/api"
)

// afterLast is the first second that no moment has: 300 years of 365 days, and 73 leap years' one more.
const afterLast int64 = (300*365 + 73) * 86_400

// strange are numbers that are no year, no month, no day, no hour, no minute and no second.
func strange() []int {
	return []int{math.MinInt, math.MinInt + 1, math.MinInt32, -2_000, -400, -100, -12, -1, 2_200, 2_201, 2_400, 4_000, math.MaxInt32, math.MaxInt - 1, math.MaxInt}
}

// moment is a date and a time of it in the order in which they are written.
func moment(of ...int) api.Moment {
	return api.Moment{Year: of[0], Month: of[1], Day: of[2], Hour: of[3], Minute: of[4], Second: of[5]}
}

// byLibrary is the moment of a second by the library's calendar.
func byLibrary(sec int64) api.Moment {
	at := time.Date(1900, 1, 1, 0, 0, 0, 0, time.UTC).Unix() + sec
	u := time.Unix(at, 0).UTC()
	return moment(u.Year(), int(u.Month()), u.Day(), u.Hour(), u.Minute(), u.Second())
}

func wantDay(t *testing.T, year, month, day int, want int64, err api.Errno) {
	t.Helper()
	if got, e := Day(year, month, day); got != want || e != err {
		t.Errorf("Day %d, %d, %d: got %d, %d, want %d, %d", year, month, day, got, e, want, err)
	}
}

func wantSecond(t *testing.T, m api.Moment, want int64, err api.Errno) {
	t.Helper()
	if got, e := Second(m); got != want || e != err {
		t.Errorf("Second of %v: got %d, %d, want %d, %d", m, got, e, want, err)
	}
}

func wantOf(t *testing.T, sec int64, want api.Moment, err api.Errno) {
	t.Helper()
	if got, e := Of(sec); got != want || e != err {
		t.Errorf("Of %d: got %v, %d, want %v, %d", sec, got, e, want, err)
	}
}

// wantBoth asks a second of its moment, and the moment of its second.
func wantBoth(t *testing.T, m api.Moment, sec int64) {
	t.Helper()
	wantSecond(t, m, sec, api.OK)
	wantOf(t, sec, m, api.OK)
}

// P3.1
func TestLeapKnown(t *testing.T) {
	for _, x := range []struct {
		year int
		want bool
	}{
		{1900, false}, {1901, false}, {1902, false}, {1903, false}, {1904, true}, {1980, true}, {1996, true}, {1999, false}, {2000, true}, {2001, false}, {2004, true},
		{2016, true}, {2023, false}, {2024, true}, {2026, false}, {2096, true}, {2099, false}, {2100, false}, {2101, false}, {2104, true}, {2196, true}, {2198, false}, {2199, false},
		// What would be one is none, if it is no year.
		{1896, false}, {1899, false}, {2200, false}, {2204, false}, {1600, false}, {2400, false}, {0, false}, {4, false}, {400, false}, {-4, false},
	} {
		if got := Leap(x.year); got != x.want {
			t.Errorf("Leap %d: got %v, want %v", x.year, got, x.want)
		}
	}
	for _, year := range strange() {
		if Leap(year) {
			t.Errorf("Leap %d: it is no year", year)
		}
	}
}

// P3.1
func TestLeapOfAllYears(t *testing.T) {
	count := 0
	for year := 1900; year <= 2199; year++ {
		want := time.Date(year, 12, 31, 0, 0, 0, 0, time.UTC).YearDay() == 366
		if Leap(year) != want {
			t.Errorf("Leap %d: got %v", year, !want)
		}
		if want {
			count++
		}
	}
	if count != 73 {
		t.Errorf("leap years: got %d, want 73", count)
	}
}

// P3.1
func TestLengthKnown(t *testing.T) {
	for _, x := range [][3]int{
		{2100, 2, 28}, {1900, 2, 28}, {2000, 2, 29}, {2024, 2, 29}, {2023, 2, 28}, {1904, 2, 29}, {2196, 2, 29}, {2199, 2, 28},
		{1999, 1, 31}, {1999, 3, 31}, {1999, 4, 30}, {1999, 5, 31}, {1999, 6, 30}, {1999, 7, 31}, {1999, 8, 31}, {1999, 9, 30}, {1999, 10, 31}, {1999, 11, 30}, {1999, 12, 31},
		{1900, 1, 31}, {1900, 12, 31}, {2199, 1, 31}, {2199, 12, 31},
		{2000, 0, 0}, {2000, 13, 0}, {2000, -1, 0}, {2000, 14, 0}, {2000, -2, 0}, {1899, 1, 0}, {1899, 12, 0}, {2200, 1, 0}, {2200, 12, 0}, {1899, 0, 0}, {2200, 13, 0},
		{1896, 2, 0}, {2204, 2, 0}, {2400, 2, 0}, {0, 1, 0}, {99, 1, 0}, {-2000, 2, 0},
	} {
		if got := Length(x[0], x[1]); got != x[2] {
			t.Errorf("Length %d, %d: got %d, want %d", x[0], x[1], got, x[2])
		}
	}
	for _, n := range strange() {
		for _, month := range append(strange(), 0, 1, 2, 12, 13) {
			if got := Length(n, month); got != 0 {
				t.Errorf("Length %d, %d: got %d, want 0", n, month, got)
			}
		}
		for _, year := range []int{1899, 1900, 2000, 2199, 2200} {
			if got := Length(year, n); got != 0 {
				t.Errorf("Length %d, %d: got %d, want 0", year, n, got)
			}
		}
	}
}

// P3.1
func TestDayKnown(t *testing.T) {
	for _, x := range [][4]int{
		{1900, 1, 1, 0}, {1900, 1, 2, 1}, {1900, 1, 31, 30}, {1900, 2, 1, 31}, {1900, 2, 28, 58}, {1900, 3, 1, 59}, {1900, 12, 31, 364}, {1901, 1, 1, 365},
		{1904, 2, 28, 1518}, {1904, 2, 29, 1519}, {1904, 3, 1, 1520}, {1904, 12, 31, 1825}, {1905, 1, 1, 1826},
		{1970, 1, 1, 25_567}, {1980, 1, 6, 29_224}, {2000, 1, 1, 36_524}, {2000, 2, 29, 36_583}, {2000, 3, 1, 36_584}, {2001, 1, 1, 36_890}, {2017, 1, 1, 42_734},
		{2100, 2, 28, 73_107}, {2100, 3, 1, 73_108}, {2199, 1, 1, 109_208}, {2199, 12, 30, 109_571}, {2199, 12, 31, 109_572},
	} {
		wantDay(t, x[0], x[1], x[2], int64(x[3]), api.OK)
	}
}

// P3.1, P1: each date has the next number; the days round those of a month are none, and nothing else is told of them.
func TestDayOfAllDates(t *testing.T) {
	next := int64(0)
	for year := 1900; year <= 2199; year++ {
		for month := 1; month <= 12; month++ {
			last := time.Date(year, time.Month(month)+1, 0, 0, 0, 0, 0, time.UTC).Day()
			if got := Length(year, month); got != last {
				t.Errorf("Length %d, %d: got %d, want %d", year, month, got, last)
			}
			for _, day := range []int{-1, 0, last + 1, last + 2, 32} {
				wantDay(t, year, month, day, 0, api.ErrArg)
			}
			for day := 1; day <= last; day++ {
				wantDay(t, year, month, day, next, api.OK)
				next++
			}
		}
	}
	if next*86_400 != afterLast {
		t.Errorf("dates: got %d, want %d", next, afterLast/86_400)
	}
}

// P3.1, P1
func TestDayRefuses(t *testing.T) {
	for _, x := range [][3]int{
		{1899, 12, 31}, {1899, 1, 1}, {2200, 1, 1}, {2200, 12, 31}, {2000, 0, 1}, {2000, 13, 1}, {2000, -1, 1}, {2000, 1, 0}, {2000, 1, -1}, {2000, 1, 32}, {2000, 4, 31},
		{1900, 2, 29}, {2100, 2, 29}, {2199, 2, 29}, {2001, 2, 29}, {2000, 2, 30}, {2024, 2, 30}, {1896, 2, 29}, {2204, 2, 29},
		// What is no month has no day 0 either.
		{2000, 0, 0}, {2000, 13, 0}, {1899, 1, 0}, {2200, 1, 0}, {0, 0, 0}, {2000, 13, -1},
	} {
		wantDay(t, x[0], x[1], x[2], 0, api.ErrArg)
	}
	for _, n := range strange() {
		for _, k := range append(strange(), 0, 1, 12) {
			wantDay(t, n, 1, k, 0, api.ErrArg)
			wantDay(t, n, k, 1, 0, api.ErrArg)
			wantDay(t, 2000, n, k, 0, api.ErrArg)
			wantDay(t, k, n, 1, 0, api.ErrArg)
		}
		wantDay(t, 2000, 1, n, 0, api.ErrArg)
		wantDay(t, n, n, n, 0, api.ErrArg)
	}
}

// P3.2
func TestSecondAndOfKnown(t *testing.T) {
	for _, x := range []struct {
		m   api.Moment
		sec int64
	}{
		{moment(1900, 1, 1, 0, 0, 0), 0}, {moment(1900, 1, 1, 0, 0, 1), 1}, {moment(1900, 1, 1, 0, 0, 59), 59}, {moment(1900, 1, 1, 0, 1, 0), 60}, {moment(1900, 1, 1, 0, 59, 59), 3_599},
		{moment(1900, 1, 1, 1, 0, 0), 3_600}, {moment(1900, 1, 1, 23, 59, 59), 86_399}, {moment(1900, 1, 2, 0, 0, 0), 86_400}, {moment(1900, 2, 28, 23, 59, 59), 59*86_400 - 1}, {moment(1900, 3, 1, 0, 0, 0), 59 * 86_400},
		{moment(1900, 12, 31, 23, 59, 59), 365*86_400 - 1}, {moment(1901, 1, 1, 0, 0, 0), 365 * 86_400}, {moment(1904, 2, 29, 0, 0, 0), 1519 * 86_400}, {moment(1904, 12, 31, 23, 59, 59), 1826*86_400 - 1},
		{moment(1970, 1, 1, 0, 0, 0), 2_208_988_800}, {moment(1980, 1, 6, 0, 0, 0), api.Epoch}, {moment(2000, 2, 29, 12, 0, 1), 3_160_814_401}, {moment(2016, 12, 31, 23, 59, 59), 3_692_217_599}, {moment(2017, 1, 1, 0, 0, 0), 3_692_217_600},
		{moment(2036, 2, 7, 6, 28, 15), 1<<32 - 1}, {moment(2036, 2, 7, 6, 28, 16), 1 << 32}, {moment(2100, 2, 28, 23, 59, 59), 73_108*86_400 - 1}, {moment(2100, 3, 1, 0, 0, 0), 73_108 * 86_400},
		{moment(2199, 12, 31, 0, 0, 0), afterLast - 86_400}, {moment(2199, 12, 31, 23, 59, 58), afterLast - 2}, {moment(2199, 12, 31, 23, 59, 59), afterLast - 1},
	} {
		wantBoth(t, x.m, x.sec)
	}
}

// P3.2, P1
func TestSecondRefuses(t *testing.T) {
	for _, m := range []api.Moment{
		{}, moment(1899, 12, 31, 23, 59, 59), moment(2200, 1, 1, 0, 0, 0), moment(2000, 0, 1, 0, 0, 0), moment(2000, 13, 1, 0, 0, 0), moment(2000, 1, 0, 0, 0, 0), moment(2000, 1, 32, 0, 0, 0), moment(2001, 2, 29, 0, 0, 0), moment(2100, 2, 29, 12, 0, 0),
		moment(2000, 1, 1, 24, 0, 0), moment(2000, 1, 1, -1, 0, 0), moment(2000, 1, 1, 0, 60, 0), moment(2000, 1, 1, 0, -1, 0), moment(2000, 1, 1, 0, 0, 60), moment(2000, 1, 1, 0, 0, -1),
		// A leap second is no moment of this calendar, and what is too much of one part is not made up by another.
		moment(2016, 12, 31, 23, 59, 60), moment(2000, 1, 1, 1, -1, 0), moment(2000, 1, 1, 0, 1, -1), moment(2000, 1, 1, -1, 60, 0), moment(2199, 12, 31, 24, 0, 0), moment(1900, 1, 1, 0, 0, -1), moment(1900, 1, 1, -1, -1, -1),
	} {
		wantSecond(t, m, 0, api.ErrArg)
	}
	for _, n := range strange() {
		for part := range 6 {
			of := []int{2000, 2, 29, 12, 30, 30}
			of[part] = n
			wantSecond(t, moment(of...), 0, api.ErrArg)
		}
		wantSecond(t, moment(n, n, n, n, n, n), 0, api.ErrArg)
		wantSecond(t, moment(2000, 1, 1, n, n, n), 0, api.ErrArg)
	}
}

// P3.2: of all hours, minutes and seconds, and some round them, those within a day have a second.
func TestSecondOfAllTimes(t *testing.T) {
	for h := -2; h <= 25; h++ {
		for m := -2; m <= 61; m++ {
			for s := -2; s <= 61; s++ {
				if h < 0 || h > 23 || m < 0 || m > 59 || s < 0 || s > 59 {
					wantSecond(t, moment(1980, 1, 6, h, m, s), 0, api.ErrArg)
					continue
				}
				wantBoth(t, moment(1980, 1, 6, h, m, s), api.Epoch+int64(3600*h+60*m+s))
			}
		}
	}
}

// P3.2, P1
func TestOfRefuses(t *testing.T) {
	for _, sec := range []int64{
		-1, -2, -86_400, -86_401, -(1 << 32), math.MinInt32, math.MinInt64, math.MinInt64 + 1,
		afterLast, afterLast + 1, afterLast + 86_399, afterLast + 86_400, 1 << 34, 1 << 52, math.MaxInt64/86_400*86_400 - 1, math.MaxInt64 - 1, math.MaxInt64,
	} {
		wantOf(t, sec, api.Moment{}, api.ErrOver)
	}
}

// P3.2: the first, the last and a drawn second of each date, by the library's calendar.
func TestSecondAndOfAgainstLibrary(t *testing.T) {
	r := rand.New(rand.NewSource(6))
	for first := int64(0); first < afterLast; first += 86_400 {
		for _, sec := range []int64{first, first + r.Int63n(86_400), first + 86_399} {
			wantBoth(t, byLibrary(sec), sec)
		}
	}
}

// ahead is whether a moment is ahead of another one: the first part that is not the same tells.
func ahead(a, b api.Moment) bool {
	parts := func(m api.Moment) [6]int { return [6]int{m.Year, m.Month, m.Day, m.Hour, m.Minute, m.Second} }
	x, y := parts(a), parts(b)
	for i := range x {
		if x[i] != y[i] {
			return x[i] < y[i]
		}
	}
	return false
}

// P3.2: moments and their seconds are one and the same, in one order.
func TestMomentsAndSecondsInOneOrder(t *testing.T) {
	r := rand.New(rand.NewSource(7))
	ask := func(a, b int64) {
		x, e := Of(a)
		y, f := Of(b)
		if e != api.OK || f != api.OK {
			t.Fatalf("Of %d, %d: %d, %d", a, b, e, f)
		}
		if ahead(x, y) != (a < b) || ahead(y, x) != (b < a) {
			t.Errorf("%d, %d are not in the order of %v, %v", a, b, x, y)
		}
		wantSecond(t, x, a, api.OK)
		wantSecond(t, y, b, api.OK)
	}
	for range 50_000 {
		a := r.Int63n(afterLast - 1)
		ask(a, a+1)
		ask(a, a)
		ask(a, r.Int63n(afterLast))
	}
	for last := int64(86_399); last < afterLast-1; last += 86_400 {
		ask(last, last+1)
	}
}
