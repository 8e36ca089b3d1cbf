package tests

import (
	"math"
	"regexp"
	"strconv"
	"strings"
	"testing"

	"loop.example/g01055/impl"
)

func TestLimitsOfAngles(t *testing.T) {
	same(t, "Turn", impl.Turn, turn)
	same(t, "Quarter", impl.Quarter, quarter)
	same(t, "MaxAngle", impl.MaxAngle, maxAngle)
}

func TestValidSpot(t *testing.T) {
	for _, p := range drawnSpots() {
		same(t, "ValidSpot "+name(p), impl.ValidSpot(p), true)
	}
	for _, p := range wrongSpots() {
		same(t, "ValidSpot "+name(p), impl.ValidSpot(p), false)
	}
}

func TestWrapLon(t *testing.T) {
	for angle, want := range map[int64]int64{
		0: 0, 1: 1, -1: -1, half - 1: half - 1, half: -half, half + 1: -half + 1, -half: -half, -half - 1: half - 1,
		turn: 0, -turn: 0, turn + 1: 1, turn - 1: -1, -turn - 1: -1, -turn + 1: 1, 3 * half: -half, -3 * half: -half,
		2 * turn: 0, -2 * turn: 0, 771 * turn: 0, -771 * turn: 0, 5*turn + quarter: quarter, -5*turn - quarter: -quarter,
		maxAngle: -512000, -maxAngle: 512000, maxAngle - 1: -512001, -maxAngle + 1: 512001,
	} {
		lon, code := impl.WrapLon(angle)
		same(t, "WrapLon "+strconv.FormatInt(angle, 10), lon, want)
		same(t, "WrapLon "+strconv.FormatInt(angle, 10), code, impl.OK)
	}
	for _, angle := range wrongAngles() {
		lon, code := impl.WrapLon(angle)
		same(t, "WrapLon of no angle", lon, 0)
		same(t, "WrapLon of no angle", code, impl.ErrRange)
	}
}

func TestLonDifference(t *testing.T) {
	for _, x := range [][3]int64{
		{0, 0, 0}, {600000, -600000, 96000}, {-600000, 600000, -96000}, {0, half, -half}, {half, 0, -half}, {-half, 0, -half},
		{0, half - 1, half - 1}, {0, half + 1, -half + 1}, {1, 0, -1}, {turn, 0, 0}, {0, turn, 0}, {-turn, turn + 5, 5},
		{-maxAngle, maxAngle, 272000}, {maxAngle, -maxAngle, -272000}, {maxAngle, maxAngle, 0}, {-maxAngle, -maxAngle, 0},
	} {
		lon, code := impl.LonDifference(x[0], x[1])
		same(t, "LonDifference", lon, x[2])
		same(t, "LonDifference", code, impl.OK)
	}
	for _, angle := range wrongAngles() {
		for _, other := range append(wrongAngles(), 0, maxAngle, -maxAngle) {
			for _, x := range [][2]int64{{angle, other}, {other, angle}} {
				lon, code := impl.LonDifference(x[0], x[1])
				same(t, "LonDifference of no angle", lon, 0)
				same(t, "LonDifference of no angle", code, impl.ErrRange)
			}
		}
	}
}

func TestTurnSpot(t *testing.T) {
	for _, x := range []struct {
		p     impl.Spot
		angle int64
		lon   int64
	}{
		{impl.Spot{}, 0, 0}, {impl.Spot{Lon: 600000}, 96000, -600000}, {impl.Spot{Lat: 5, Lon: half - 1}, 1, -half},
		{impl.Spot{Lat: -5, Lon: -half}, -1, half - 1}, {impl.Spot{Lat: quarter, Lon: 7}, turn, 7},
		{impl.Spot{Lat: -quarter, Lon: -7}, -turn, -7}, {impl.Spot{Lon: half - 1}, maxAngle, 135999},
		{impl.Spot{Lon: -half}, -maxAngle, -136000}, {impl.Spot{Lon: 9}, half, -half + 9}, {impl.Spot{Lon: 9}, -half, -half + 9},
	} {
		q, code := impl.TurnSpot(x.p, x.angle)
		same(t, "TurnSpot "+name(x.p), q, impl.Spot{Lat: x.p.Lat, Lon: x.lon})
		same(t, "TurnSpot "+name(x.p), code, impl.OK)
	}
}

func TestErrorsOfTurnSpot(t *testing.T) {
	for _, p := range wrongSpots() {
		for _, angle := range append(wrongAngles(), 0, turn, maxAngle, -maxAngle) {
			q, code := impl.TurnSpot(p, angle)
			same(t, "TurnSpot "+name(p), q, impl.Spot{})
			same(t, "TurnSpot "+name(p), code, impl.ErrInvalid)
		}
	}
	for _, p := range drawnSpots() {
		for _, angle := range wrongAngles() {
			q, code := impl.TurnSpot(p, angle)
			same(t, "TurnSpot by no angle", q, impl.Spot{})
			same(t, "TurnSpot by no angle", code, impl.ErrRange)
		}
	}
}

func TestAntipode(t *testing.T) {
	for p, want := range map[impl.Spot]impl.Spot{
		{}:                              {Lon: -half},
		{Lon: -half}:                    {},
		{Lon: half - 1}:                 {Lon: -1},
		{Lon: -1}:                       {Lon: half - 1},
		{Lat: 187230, Lon: -4500}:       {Lat: -187230, Lon: 643500},
		{Lat: quarter, Lon: 0}:          {Lat: -quarter, Lon: -half},
		{Lat: -quarter, Lon: quarter}:   {Lat: quarter, Lon: -quarter},
		{Lat: -quarter, Lon: -half + 1}: {Lat: quarter, Lon: 1},
	} {
		q, code := impl.Antipode(p)
		same(t, "Antipode "+name(p), q, want)
		same(t, "Antipode "+name(p), code, impl.OK)
	}
	for _, p := range wrongSpots() {
		q, code := impl.Antipode(p)
		same(t, "Antipode "+name(p), q, impl.Spot{})
		same(t, "Antipode "+name(p), code, impl.ErrInvalid)
	}
}

func TestHourText(t *testing.T) {
	for angle, want := range map[int64]string{
		0: "0h00m", 900: "0h01m", 9000: "0h10m", 53100: "0h59m", 54000: "1h00m", 378000: "7h00m", 540000: "10h00m",
		706500: "13h05m", turn - 900: "23h59m",
		1: "", 899: "", 901: "", -1: "", -900: "", -54000: "", turn - 1: "", turn: "", turn + 900: "",
		maxAngle: "", math.MinInt64: "", math.MaxInt64: "", math.MaxInt64 / 900 * 900: "", math.MinInt64 / 900 * 900: "",
	} {
		same(t, "HourText "+strconv.FormatInt(angle, 10), impl.HourText(angle), want)
	}
}

func TestReadHourOfNearTexts(t *testing.T) {
	hour := regexp.MustCompile(`^([0-9]|1[0-9]|2[0-3])h([0-5][0-9])m$`)
	for _, s := range []string{"0h00m", "7h00m", "9h59m", "13h05m", "20h10m", "23h59m"} {
		for _, x := range append(nearTexts(s, "0123569hm -+. a\xff"), s) {
			angle, ok := impl.ReadHour(x)
			same(t, "ReadHour "+quoted(x), ok, hour.MatchString(x))
			if ok {
				same(t, "HourText of what is read", impl.HourText(angle), x)
			} else {
				same(t, "what is read of "+quoted(x), angle, 0)
			}
		}
	}
}

func TestReadHourOfOtherTexts(t *testing.T) {
	for _, s := range []string{
		"", "h", "m", "hm", "0h", "h00m", "0h0m", "0h000m", "00h00m", "01h00m", "-0h00m", "-1h00m", "+1h00m", "24h00m",
		"23h60m", "1h60m", "0h99m", "1h-1m", "1h+1m", "1h 1m", "1h00", "100m", "1h00s", "1h00mm", "1h00m ", " 1h00m", "1h00m\n",
		"1H00M", "1hh00m", "1h00m1h00m", "1,5h00m", "999999999999999999h00m", "341606371735363h00m", "1000000000000000000h00m",
		"-999999999999999999h00m", strings.Repeat("1", 100000) + "h00m", strings.Repeat("h", 100000), "1h" + strings.Repeat("0", 100000) + "m",
	} {
		angle, ok := impl.ReadHour(s)
		same(t, "ReadHour "+quoted(s), angle, 0)
		same(t, "ReadHour "+quoted(s), ok, false)
	}
}

func TestSpotText(t *testing.T) {
	for p, want := range map[impl.Spot]string{
		{Lat: 187230, Lon: -4500}:          "52.00.30n 1.15.00w",
		{}:                                 "0.00.00n 0.00.00e",
		{Lat: 1, Lon: 1}:                   "0.00.01n 0.00.01e",
		{Lat: -1, Lon: -1}:                 "0.00.01s 0.00.01w",
		{Lat: quarter, Lon: half - 1}:      "90.00.00n 179.59.59e",
		{Lat: -quarter, Lon: -half}:        "90.00.00s 180.00.00w",
		{Lat: 59, Lon: 60}:                 "0.00.59n 0.01.00e",
		{Lat: 3599, Lon: -3600}:            "0.59.59n 1.00.00w",
		{Lat: -quarter + 1, Lon: -quarter}: "89.59.59s 90.00.00w",
		{Lat: 36610, Lon: 360000}:          "10.10.10n 100.00.00e",
	} {
		same(t, "SpotText "+name(p), impl.SpotText(p), want)
	}
	for _, p := range wrongSpots() {
		same(t, "SpotText "+name(p), impl.SpotText(p), "")
	}
}

func TestReadSpotOfNearTexts(t *testing.T) {
	for _, s := range []string{
		"52.00.30n 1.15.00w", "0.00.00n 0.00.00e", "0.00.01s 0.00.01w", "90.00.00n 179.59.59e", "90.00.00s 180.00.00w",
		"89.59.59s 90.00.00w", "10.10.10n 100.00.00e",
	} {
		for _, x := range append(nearTexts(s, "01256789.nsew -+_a\xff"), s) {
			p, ok := impl.ReadSpot(x)
			same(t, "ReadSpot "+quoted(x), ok, isSpotText(x))
			if ok {
				same(t, "SpotText of what is read", impl.SpotText(p), x)
			} else {
				same(t, "what is read of "+quoted(x), p, impl.Spot{})
			}
		}
	}
}

func TestReadSpotOfOtherTexts(t *testing.T) {
	for _, s := range []string{
		"", " ", "n", "n e", "0.00.00n", "0.00.00n ", " 0.00.00e", "0.00.00e 0.00.00n", "0.00.00n 0.00.00n", "0.00.00s 0.00.00e",
		"0.00.00n 0.00.00w", "00.00.00n 0.00.00e", "0.0.00n 0.00.00e", "0.00.0n 0.00.00e", "0.00n 0.00.00e", "0.00.00.00n 0.00.00e",
		"0.60.00n 0.00.00e", "0.00.60n 0.00.00e", "0.00.00n 0.60.00e", "0.00.00n 0.00.60e", "-1.00.00n 0.00.00e", "+1.00.00n 0.00.00e",
		"1.-1.00n 0.00.00e", "90.00.01n 0.00.00e", "90.00.01s 0.00.00e", "91.00.00n 0.00.00e", "0.00.00n 180.00.00e",
		"0.00.00n 180.00.01w", "0.00.00n 359.59.59e", "0.00.00n 360.00.00e", "0.00.00n 361.00.00w", "0.00.00n  0.00.00e",
		"0.00.00n\t0.00.00e", "0.00.00n 0.00.00e ", " 0.00.00n 0.00.00e", "0.00.00n 0.00.00e 0.00.00e", "0.00.00N 0.00.00E",
		"0.00.00nn 0.00.00e", "0.00.00n 0.00.00ee", "0.00.00n 0.00.00e\n", "0,00,00n 0,00,00e", "0.00.00n,0.00.00e",
		"1.00.00n 999999999999999999.00.00e", "5124095576030432.00.00n 0.00.00e", "-999999999999999999.00.00n 0.00.00e",
		strings.Repeat("1", 100000) + ".00.00n 0.00.00e", strings.Repeat(" ", 100000), strings.Repeat("0.00.00n ", 10000),
		"0.00.00n " + strings.Repeat("e", 100000), strings.Repeat(".", 100000) + "n 0.00.00e",
	} {
		p, ok := impl.ReadSpot(s)
		same(t, "ReadSpot "+quoted(s), p, impl.Spot{})
		same(t, "ReadSpot "+quoted(s), ok, false)
	}
}

var spotForm = regexp.MustCompile(`^(0|[1-9][0-9]?)\.([0-5][0-9])\.([0-5][0-9])([ns]) (0|[1-9][0-9]{0,2})\.([0-5][0-9])\.([0-5][0-9])([ew])$`)

// isSpotText tells by the words of the document whether a valid spot has the text s.
func isSpotText(s string) bool {
	m := spotForm.FindStringSubmatch(s)
	if m == nil {
		return false
	}
	lat, lon := secondsOf(m[1:4]), secondsOf(m[5:8])
	if m[4] == "s" && lat == 0 || m[8] == "w" && lon == 0 {
		return false
	}
	return lat <= quarter && (lon < half || lon == half && m[8] == "w")
}

func secondsOf(parts []string) int {
	n := 0
	for _, s := range parts {
		k, _ := strconv.Atoi(s)
		n = n*60 + k
	}
	return n
}

func name(p impl.Spot) string {
	return strconv.FormatInt(p.Lat, 10) + " " + strconv.FormatInt(p.Lon, 10)
}
