package repair

import (
	"testing"

	"remontoire/api"
)

// P18.1: the chapter's known answers.
func TestExamples(t *testing.T) {
	wantMeant(t, gps(5, 1024), 10, 619_315_205)
	wantMeant(t, utc(at(1924, 3, 1, 0, 0, 0), 100), 1_261_872_018, 1_393_286_418)
	wantMeant(t, leapBehind(3_692_217_599, 0), 1_167_000_000, 1_167_264_017)
	wantMeant(t, leapBehind(3_692_217_599, 1024), 1_167_000_000, 1_167_264_017)
	wantMeant(t, leapBehind(3_692_217_599, 100), 1_167_000_000, 1_167_264_017)
}

// P18.1
func TestGPSKnown(t *testing.T) {
	for _, cycle := range []int{0, 1024} {
		for _, x := range [][3]int64{
			{0, 0, 0}, {5, 0, 5}, {5, 5, 5}, {5, 6, 619_315_205}, {-1, 0, 619_315_199}, {619_315_200, 0, 0}, {619_315_200, 1, 619_315_200},
			{547_948_817, 1_000_000_000, 1_167_264_017}, {1_786_579_217, 1_000_000_000, 1_167_264_017},
			{6_000_000_000, 6_000_000_000, 6_000_000_000}, {6_000_000_001, 0, 426_163_201}, {6_000_000_001, 5_000_000_000, 5_380_684_801},
			{-far, 0, 392_167_424}, {-far, 1_000_000_000, 1_011_482_624}, {-far, 5_000_000_000, 5_346_689_024},
			{far, 0, 227_147_776}, {far, 1_000_000_000, 1_465_778_176}, {far, 5_000_000_000, 5_181_669_376},
		} {
			wantMeant(t, gps(x[0], cycle), x[1], x[2])
		}
	}
}

// P18.1
func TestUTCKnown(t *testing.T) {
	for _, cycle := range []int{0, 1024} {
		for _, x := range [][3]int64{
			{epoch, 0, 0}, {epoch + 5, 0, 5}, {epoch + 5, 5, 5}, {epoch + 5, 19, 619_315_218}, {0, 0, 571_622_412},
			{3_692_217_599, 1_000_000_000, 1_167_264_016}, {3_692_217_600, 1_000_000_000, 1_167_264_018},
			{3_786_825_600, 1_261_872_018, 1_261_872_018}, {3_167_510_400, 1_261_872_018, 1_261_872_018}, {3_167_510_400, 1_261_872_019, 1_881_187_218},
			{lastUTC, last, last}, {lastUTC - span, last, last}, {lastUTC + span, last, last},
			{-far, 0, 344_474_630}, {-far, 1_000_000_000, 1_583_105_042}, {-far, 5_000_000_000, 5_298_996_242},
			{far, 0, 179_454_980}, {far, 1_000_000_000, 1_418_085_394}, {far, 5_000_000_000, 5_133_976_594},
		} {
			wantMeant(t, utc(x[0], cycle), x[1], x[2])
		}
	}
}

// P18.1: a message is asked for its scale, its second, its leap second and its cycle alone.
func TestKindAndNextChangeNothing(t *testing.T) {
	for _, x := range []struct {
		m     api.Msg
		floor int64
		told  int64
		err   api.Errno
	}{
		{gps(5, 1024), 10, 619_315_205, api.OK},
		{utc(at(1924, 3, 1, 0, 0, 0), 100), 1_261_872_018, 1_393_286_418, api.OK},
		{utc(3_167_510_400, 0), 1_261_872_018, 1_261_872_018, api.OK},
		{leapBehind(3_692_217_599, 1024), 1_167_000_000, 1_167_264_017, api.OK},
		{leapBehind(3_692_217_600, 1024), 1_167_000_000, 0, api.ErrNone},
		{gps(far+1, 0), 0, 0, api.ErrOver},
		{gps(5, 100), 0, 0, api.ErrArg},
		{utc(5, 7), 0, 0, api.ErrArg},
	} {
		for kind := range 256 {
			x.m.Kind = uint8(kind)
			for _, next := range []bool{false, true} {
				x.m.Next = next
				want(t, x.m, x.floor, x.told, x.err)
			}
		}
	}
}
