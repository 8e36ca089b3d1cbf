package tests

import (
	"math/rand"
	"testing"

	"loop.example/g01055/impl"
)

func isLon(n int64) bool { return -half <= n && n <= half-1 }

// The longitude of an angle is the only one that differs from it by whole turns.
func TestLongitudesDifferByWholeTurns(t *testing.T) {
	for _, angle := range drawnAngles() {
		lon, code := impl.WrapLon(angle)
		same(t, "WrapLon", code, impl.OK)
		if !isLon(lon) || (angle-lon)%turn != 0 {
			t.Errorf("WrapLon %d: got %d", angle, lon)
		}
		for _, to := range drawnAngles() {
			d, code := impl.LonDifference(angle, to)
			same(t, "LonDifference", code, impl.OK)
			if !isLon(d) || (to-angle-d)%turn != 0 {
				t.Errorf("LonDifference %d %d: got %d", angle, to, d)
			}
		}
	}
}

func TestWholeTurnsChangeNothing(t *testing.T) {
	for _, p := range drawnSpots() {
		for _, k := range []int64{-771, -2, -1, 0, 1, 2, 771} {
			q, code := impl.TurnSpot(p, k*turn)
			same(t, "TurnSpot by whole turns", q, p)
			same(t, "TurnSpot by whole turns", code, impl.OK)
			lon, code := impl.WrapLon(p.Lon + k*turn)
			same(t, "WrapLon of whole turns more", lon, p.Lon)
			same(t, "WrapLon of whole turns more", code, impl.OK)
			d, code := impl.LonDifference(p.Lon, p.Lon+k*turn)
			same(t, "LonDifference of whole turns", d, 0)
			same(t, "LonDifference of whole turns", code, impl.OK)
		}
	}
}

func TestTurnBackLeadsBack(t *testing.T) {
	for _, p := range drawnSpots() {
		for _, angle := range drawnAngles() {
			q, code := impl.TurnSpot(p, angle)
			same(t, "TurnSpot", code, impl.OK)
			if q.Lat != p.Lat || !isLon(q.Lon) || (p.Lon+angle-q.Lon)%turn != 0 {
				t.Errorf("TurnSpot %s by %d: got %s", name(p), angle, name(q))
			}
			back, code := impl.TurnSpot(q, -angle)
			same(t, "TurnSpot and back", back, p)
			same(t, "TurnSpot and back", code, impl.OK)
			d, _ := impl.LonDifference(p.Lon, q.Lon)
			wrapped, _ := impl.WrapLon(angle)
			same(t, "LonDifference of a turn", d, wrapped)
		}
	}
}

func TestAntipodeLeadsBack(t *testing.T) {
	for _, p := range drawnSpots() {
		q, code := impl.Antipode(p)
		same(t, "Antipode", code, impl.OK)
		if !impl.ValidSpot(q) || q.Lat != -p.Lat || q.Lon-p.Lon != half && q.Lon-p.Lon != -half {
			t.Errorf("Antipode %s: got %s", name(p), name(q))
		}
		back, code := impl.Antipode(q)
		same(t, "Antipode of the antipode", back, p)
		same(t, "Antipode of the antipode", code, impl.OK)
	}
}

func TestSpotsAreReadBack(t *testing.T) {
	spots := drawnSpots()
	for lat := int64(-quarter); lat <= quarter; lat += 7 {
		spots = append(spots, impl.Spot{Lat: lat, Lon: (lat * 11) % half})
	}
	r := rand.New(rand.NewSource(4))
	for lon := int64(-half); lon < half; lon += 1 + r.Int63n(12) {
		spots = append(spots, impl.Spot{Lat: r.Int63n(2*quarter+1) - quarter, Lon: lon})
	}
	owners := map[string]impl.Spot{}
	for _, p := range spots {
		s := impl.SpotText(p)
		back, ok := impl.ReadSpot(s)
		same(t, "ReadSpot "+quoted(s), back, p)
		same(t, "ReadSpot "+quoted(s), ok, true)
		if q, known := owners[s]; known && q != p {
			t.Errorf("%s and %s have the text %s", name(p), name(q), s)
		}
		owners[s] = p
	}
}

func TestHoursAreReadBack(t *testing.T) {
	many := 0
	for angle := int64(-900); angle <= turn+900; angle++ {
		s := impl.HourText(angle)
		if s == "" {
			continue
		}
		many++
		back, ok := impl.ReadHour(s)
		same(t, "ReadHour "+quoted(s), back, angle)
		same(t, "ReadHour "+quoted(s), ok, true)
	}
	same(t, "angles with a text", many, turn/900)
}
