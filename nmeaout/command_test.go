package nmeaout

import (
	"math"
	"math/rand"
	"testing"

	"remontoire/api"
)

// refusedEvery are numbers that every may not be: those beside the bounds, far ones, and ones that would be within, were they cut to fewer bits.
var refusedEvery = []int{
	-1, 11, -2, 12, -9, -10, -11, 19, 20, 21, 99, 100, 101, 110, 127, 128, 255, 256, 257, 258, 266, 267, -127, -128, -129, -246, -255, -256, 1000, 1010,
	1 << 15, 65535, 65536, 65537, 65546, -65526, -65535, -65536, 1<<31 - 1, 1 << 31, 1<<31 + 1, 1<<32 - 1, 1 << 32, 1<<32 + 1, 1<<32 + 10, -1 << 31, -1<<31 - 1, -1 << 32, 5 - 1<<32, 10 - 1<<32,
	1 << 60, 1 << 62, math.MaxInt64, math.MaxInt64 - 1, math.MaxInt64 - 10, math.MinInt64, math.MinInt64 + 1, math.MinInt64 + 10,
}

// P11.2: known answers, each kind and each number written out.
func TestCommandsKnown(t *testing.T) {
	for _, x := range []struct {
		kind  uint8
		every int
		rate  string
		ask   string
	}{
		{api.RMC, 1, "PUBX,40,RMC,0,1,0,0,0,0", "PSRF103,04,0,01,1"},
		{api.ZDA, 1, "PUBX,40,ZDA,0,1,0,0,0,0", "PSRF103,08,0,01,1"},
		{api.GGA, 0, "PUBX,40,GGA,0,0,0,0,0,0", "PSRF103,00,0,00,1"},
		{api.GLL, 2, "PUBX,40,GLL,0,2,0,0,0,0", "PSRF103,01,0,02,1"},
		{api.GSA, 9, "PUBX,40,GSA,0,9,0,0,0,0", "PSRF103,02,0,09,1"},
		{api.GSV, 10, "PUBX,40,GSV,0,10,0,0,0,0", "PSRF103,03,0,10,1"},
		{api.VTG, 5, "PUBX,40,VTG,0,5,0,0,0,0", "PSRF103,05,0,05,1"},
	} {
		name, call := rateCall(x.kind, x.every)
		wantRow(t, name, call, x.rate)
		name, call = askCall(x.kind, x.every)
		wantRow(t, name, call, x.ask)
	}
	rate, _ := Rate(api.RMC, 1)
	if string(rate) != "$PUBX,40,RMC,0,1,0,0,0,0*46\r\n" {
		t.Errorf("Rate of RMC, 1: %q", rate)
	}
	ask, _ := Ask(api.ZDA, 1)
	if string(ask) != "$PSRF103,08,0,01,1*2D\r\n" {
		t.Errorf("Ask of ZDA, 1: %q", ask)
	}
}

// P11.2: each of the seven kinds with each number that may be; they are the kinds 1 to 7.
func TestCommandsOfAllKinds(t *testing.T) {
	for kind := range uint8(255) {
		_, known := letters[kind]
		if known != (kind >= 1 && kind <= 7) {
			t.Fatalf("kind %d: %t", kind, known)
		}
		for every := 0; known && every <= 10; every++ {
			wantCommands(t, kind, every)
		}
	}
}

// P11.2: numbers that may not be.
func TestCommandsEvery(t *testing.T) {
	draw := rand.New(rand.NewSource(1121))
	for kind := range letters {
		for _, every := range refusedEvery {
			wantNoCommands(t, kind, every, api.ErrArg)
		}
		for every := -1000; every <= 1000; every++ {
			if every < 0 || every > 10 {
				wantNoCommands(t, kind, every, api.ErrArg)
			}
		}
		for range 1000 {
			every := int(draw.Uint64() >> draw.Intn(60))
			if every < 0 || every > 10 {
				wantNoCommands(t, kind, every, api.ErrArg)
			}
		}
	}
}

// P11.2: kinds that are none, whatever every is: that there is no such kind is told first.
func TestCommandsOfNoKind(t *testing.T) {
	for kind := range 256 {
		if _, known := letters[uint8(kind)]; known {
			continue
		}
		for every := -20; every <= 20; every++ {
			wantNoCommands(t, uint8(kind), every, api.ErrNone)
		}
		for _, every := range refusedEvery {
			wantNoCommands(t, uint8(kind), every, api.ErrNone)
		}
	}
}

// P11.2: commands side by side in one ring are taken out in their order.
func TestCommandsSideBySide(t *testing.T) {
	for every := range 11 {
		var row []byte
		var bodies []string
		for kind := uint8(1); kind <= 7; kind++ {
			rate, _ := Rate(kind, every)
			ask, _ := Ask(kind, every)
			row = append(append(row, rate...), ask...)
			bodies = append(bodies, rateOf(kind, every), askOf(kind, every))
		}
		wantTaken(t, row, bodies...)
	}
}
