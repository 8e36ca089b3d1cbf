package tests

import (
	"fmt"
	"math"
	"math/big"
	"math/rand"
	"slices"
	"testing"

	"loop.example/g01055/impl"
)

const (
	maxScale = 100000
	maxFlat  = 2000000
	// The greatest scale and the greatest loss of BestScale, and the greatest numbers of places in a list.
	bestScale   = 1000
	maxLoss     = 1000
	maxSearched = 20
	maxBoxed    = 100
)

var (
	scaleArgument = argument{[]int64{1, 2, 3600, maxScale}, []int64{0, -1, maxScale + 1, -maxScale, math.MinInt64, math.MinInt64 + 1, math.MaxInt64 - 1, math.MaxInt64}}
	flatArgument  = argument{[]int64{-maxFlat, 0, maxFlat}, []int64{-maxFlat - 1, maxFlat + 1, math.MinInt64, math.MinInt64 + 1, math.MaxInt64 - 1, math.MaxInt64}}
	lossArgument  = argument{[]int64{0, 1, maxLoss}, []int64{-1, maxLoss + 1, -maxLoss, math.MinInt64, math.MinInt64 + 1, math.MaxInt64 - 1, math.MaxInt64}}
)

// A coded is a value with its code.
type coded[T comparable] struct {
	value T
	code  int64
}

func codedOf[T comparable](value T, code int64) coded[T] { return coded[T]{value, code} }

// A boxResult is the two corners of a box with their code.
type boxResult struct {
	low, high impl.Flat
	code      int64
}

func boxOf(low, high impl.Flat, code int64) boxResult { return boxResult{low, high, code} }

// bothKinds has the square projection and the wave projection, as the argument wave tells them.
func bothKinds() []bool { return []bool{false, true} }

// flatOf calls PlateOf or WaveOf.
func flatOf(p impl.Spot, scale int64, wave bool) coded[impl.Flat] {
	if wave {
		return codedOf(impl.WaveOf(p, scale))
	}
	return codedOf(impl.PlateOf(p, scale))
}

// spotOf calls PlateBack or WaveBack.
func spotOf(f impl.Flat, scale int64, wave bool) coded[impl.Spot] {
	if wave {
		return codedOf(impl.WaveBack(f, scale))
	}
	return codedOf(impl.PlateBack(f, scale))
}

// ruleFlat returns the place on a map by the words of the document.
func ruleFlat(p impl.Spot, scale int64, wave bool) impl.Flat {
	y := roundedQuotient(big.NewInt(p.Lat), big.NewInt(scale))
	if wave {
		return impl.Flat{X: roundedQuotient(big.NewInt(p.Lon*ruleSine(p.Lat+quarter)), big.NewInt(unit*scale)), Y: y}
	}
	return impl.Flat{X: roundedQuotient(big.NewInt(p.Lon), big.NewInt(scale)), Y: y}
}

// ruleWaveLon returns the longitude that is read on the wave projection, and whether there is one.
func ruleWaveLon(x, scale, lat int64) (int64, bool) {
	if x*scale < -turn || x*scale > turn {
		return 0, false
	}
	along := ruleSine(lat + quarter)
	if along == 0 {
		return 0, x == 0
	}
	return roundedQuotient(new(big.Int).Mul(big.NewInt(x*scale), big.NewInt(unit)), big.NewInt(along)), true
}

// ruleSpot returns what is read from a place on a map by the words of the document, and whether it belongs to the sphere.
func ruleSpot(f impl.Flat, scale int64, wave bool) (impl.Spot, bool) {
	p, ok := impl.Spot{Lat: f.Y * scale, Lon: f.X * scale}, true
	if wave {
		p.Lon, ok = ruleWaveLon(f.X, scale, p.Lat)
	}
	if !ok || p.Lat < -quarter || p.Lat > quarter || p.Lon < -half || p.Lon > half-1 {
		return impl.Spot{}, false
	}
	return p, true
}

func ruleLoss(p impl.Spot, scale int64, wave bool) pairResult {
	q, ok := ruleSpot(ruleFlat(p, scale, wave), scale, wave)
	if !ok {
		return pairResult{0, 0, impl.ErrGap}
	}
	return pairResult{q.Lat - p.Lat, q.Lon - p.Lon, impl.OK}
}

func isSmall(t *testing.T, p impl.Spot, scale, most int64, wave bool) bool {
	t.Helper()
	north, east, code := impl.LossOf(p, scale, wave)
	return code == impl.OK && max(north, -north) <= most && max(east, -east) <= most
}

// ruleBest goes from the least scale to the greatest one and keeps the last one that is good.
func ruleBest(t *testing.T, list []impl.Spot, most int64, wave bool) result {
	t.Helper()
	best := notFound
	for scale := int64(1); scale <= bestScale; scale++ {
		good := true
		for _, p := range list {
			good = good && isSmall(t, p, scale, most, wave)
		}
		if good {
			best = result{scale, impl.OK}
		}
	}
	return best
}

func drawnScales() []int64 {
	list := []int64{1, 2, 3, 7, 60, 999, 1000, 3600, 5000, 7000, 48000, 50000, 72000, 86400, maxScale - 1, maxScale}
	r := rand.New(rand.NewSource(18))
	for range 10 {
		list = append(list, 1+r.Int63n(maxScale))
	}
	return list
}

// nearPoles has places at the poles, and others that are drawn there with some scales.
func nearPoles() []impl.Spot {
	var list []impl.Spot
	for _, lat := range []int64{quarter, quarter - 1, quarter - 2, quarter - 1800, quarter - 1801, quarter - 36000} {
		for _, lon := range []int64{0, 1, -1, 5000, -5000, 300000, half - 1, -half} {
			list = append(list, impl.Spot{Lat: lat, Lon: lon}, impl.Spot{Lat: -lat, Lon: lon})
		}
	}
	return list
}

// drawnFlats has places about the edges of the sphere on a map with a scale, and others.
func drawnFlats(scale int64) []impl.Flat {
	xs := []int64{0, 1, -1, 7, -maxFlat, maxFlat}
	for _, x := range []int64{half / scale, half / 2 / scale, turn / scale, 2 * turn / scale} {
		xs = append(xs, x-1, x, x+1, -x-1, -x, -x+1)
	}
	ys := []int64{0, 1, -1, 216000 / scale, -216000 / scale, -maxFlat, maxFlat}
	for d := int64(-1); d <= 1; d++ {
		ys = append(ys, quarter/scale+d, -quarter/scale+d)
	}
	var list []impl.Flat
	for _, x := range xs {
		for _, y := range ys {
			if max(x, -x) <= maxFlat && max(y, -y) <= maxFlat {
				list = append(list, impl.Flat{X: x, Y: y})
			}
		}
	}
	return list
}

func TestLimitsOfProjections(t *testing.T) {
	same(t, "MaxScale", impl.MaxScale, maxScale)
	same(t, "MaxFlat", impl.MaxFlat, maxFlat)
}

func TestExampleOfProjections(t *testing.T) {
	same(t, "PlateOf", codedOf(impl.PlateOf(impl.Spot{Lat: 7200, Lon: -3600}, 3600)), codedOf(impl.Flat{X: -1, Y: 2}, impl.OK))
}

func checkFlat(t *testing.T, p impl.Spot, scale int64, wave bool, x, y int64) {
	t.Helper()
	same(t, fmt.Sprint("place of ", name(p), " ", scale, wave), flatOf(p, scale, wave), codedOf(impl.Flat{X: x, Y: y}, impl.OK))
}

func TestPlateOf(t *testing.T) {
	for _, x := range []struct{ lat, lon, scale, x, y int64 }{
		{7200, -3600, 3600, -1, 2}, {0, 0, 1, 0, 0}, {0, 0, maxScale, 0, 0}, {quarter, 5000, 3600, 1, 90}, {-quarter, -5000, 3600, -1, -90},
		// Just a half, just less and just more, above and below 0.
		{1800, 1800, 3600, 1, 1}, {1799, 1799, 3600, 0, 0}, {-1800, -1800, 3600, 0, 0}, {-1801, -1801, 3600, -1, -1}, {-1799, -1799, 3600, 0, 0},
		{5400, 5400, 3600, 2, 2}, {5399, 5399, 3600, 1, 1}, {-5400, -5400, 3600, -1, -1}, {-5401, -5401, 3600, -2, -2}, {-5399, -5399, 3600, -1, -1},
		{1, -1, 2, 0, 1}, {-1, 1, 2, 1, 0}, {3, -3, 2, -1, 2}, {1, 2, 3, 1, 0}, {-1, -2, 3, -1, 0},
		// Scales of 1 and MaxScale.
		{quarter, half - 1, 1, half - 1, quarter}, {-quarter, -half, 1, -half, -quarter}, {quarter, half - 1, maxScale, 6, 3}, {-quarter, -half, maxScale, -6, -3},
		{50000, 250000, maxScale, 3, 1}, {49999, 249999, maxScale, 2, 0}, {-50000, -250000, maxScale, -2, 0}, {-50001, -250001, maxScale, -3, -1},
	} {
		checkFlat(t, impl.Spot{Lat: x.lat, Lon: x.lon}, x.scale, false, x.x, x.y)
	}
}

func TestWaveOf(t *testing.T) {
	for _, x := range []struct{ lat, lon, scale, x, y int64 }{
		{0, 360000, 3600, 100, 0}, {216000, 360000, 3600, 50, 60}, {-216000, 360000, 3600, 50, -60}, {216000, -360000, 3600, -50, 60},
		// At the poles, X is 0 for all longitudes.
		{quarter, 0, 3600, 0, 90}, {quarter, 5000, 3600, 0, 90}, {-quarter, 5000, 3600, 0, -90}, {quarter, half - 1, 1, 0, quarter}, {-quarter, -half, 1, 0, -quarter},
		{quarter - 1, half - 1, 1, 3, quarter - 1}, {quarter - 1, -half, 1, -3, quarter - 1}, {1 - quarter, 100000, 1, 1, 1 - quarter}, {1 - quarter, 99999, 1, 0, 1 - quarter},
		// Just a half, just less and just more, above and below 0.
		{216000, 3600, 3600, 1, 60}, {216000, 3599, 3600, 0, 60}, {216000, -3600, 3600, 0, 60}, {216000, -3601, 3600, -1, 60},
		{216000, 10800, 3600, 2, 60}, {216000, -10800, 3600, -1, 60}, {216000, 1, 1, 1, 216000}, {216000, -1, 1, 0, 216000}, {-216000, -3, 1, -1, -216000},
		{1800, 0, 3600, 0, 1}, {-1800, 0, 3600, 0, 0}, {-1801, 0, 3600, 0, -1}, {quarter - 1, 100000, 1, 1, quarter - 1}, {quarter - 1, -100000, 1, 0, quarter - 1},
		// Scales of 1 and MaxScale.
		{0, half - 1, 1, half - 1, 0}, {0, -half, 1, -half, 0}, {216000, half - 1, 1, quarter, 216000}, {216000, -half, 1, -quarter, 216000},
		{0, half - 1, maxScale, 6, 0}, {216000, half - 1, maxScale, 3, 2}, {216000, -half, maxScale, -3, 2}, {216000, 100000, maxScale, 1, 2}, {216000, -100000, maxScale, 0, 2},
	} {
		checkFlat(t, impl.Spot{Lat: x.lat, Lon: x.lon}, x.scale, true, x.x, x.y)
	}
}

func TestPlacesOnMapsFollowTheRule(t *testing.T) {
	for _, scale := range drawnScales() {
		for _, p := range append(drawnSpots(), nearPoles()...) {
			for _, wave := range bothKinds() {
				want := ruleFlat(p, scale, wave)
				checkFlat(t, p, scale, wave, want.X, want.Y)
				same(t, fmt.Sprint("LossOf ", name(p), " ", scale, wave), pairOf(impl.LossOf(p, scale, wave)), ruleLoss(p, scale, wave))
			}
		}
	}
}

// checkRead looks at what is read from f, and that OnMap tells the same.
func checkRead(t *testing.T, f impl.Flat, scale int64, wave bool, want impl.Spot, belongs bool) {
	t.Helper()
	what := fmt.Sprint(f, scale, wave)
	same(t, "OnMap "+what, codedOf(impl.OnMap(f, scale, wave)), codedOf(belongs, impl.OK))
	if belongs {
		same(t, "read from "+what, spotOf(f, scale, wave), codedOf(want, impl.OK))
	} else {
		same(t, "read from "+what, spotOf(f, scale, wave), codedOf(impl.Spot{}, impl.ErrNotFound))
	}
}

func TestPlateBack(t *testing.T) {
	for _, x := range []struct{ x, y, scale, lat, lon int64 }{
		{-1, 2, 3600, 7200, -3600}, {0, 0, 1, 0, 0}, {0, 0, maxScale, 0, 0}, {7, 0, 60, 0, 420}, {0, -7, 60, -420, 0},
		// Just at the edges of the sphere; at the poles, X need not be 0.
		{0, 90, 3600, quarter, 0}, {0, -90, 3600, -quarter, 0}, {5, 90, 3600, quarter, 18000}, {-180, 0, 3600, 0, -half}, {179, 0, 3600, 0, 644400},
		{-180, -90, 3600, -quarter, -half}, {half - 1, quarter, 1, quarter, half - 1}, {-half, -quarter, 1, -quarter, -half},
		{323999, 162000, 2, quarter, half - 2}, {-324000, -162000, 2, -quarter, -half}, {6, 3, maxScale, 300000, 600000}, {-6, -3, maxScale, -300000, -600000},
	} {
		checkRead(t, impl.Flat{X: x.x, Y: x.y}, x.scale, false, impl.Spot{Lat: x.lat, Lon: x.lon}, true)
	}
	for _, x := range []struct{ x, y, scale int64 }{
		{0, 91, 3600}, {0, -91, 3600}, {180, 0, 3600}, {-181, 0, 3600}, {half, 0, 1}, {-half - 1, 0, 1}, {0, quarter + 1, 1}, {0, -quarter - 1, 1},
		{324000, 0, 2}, {-324001, 0, 2}, {0, 162001, 2}, {0, -162001, 2}, {7, 0, maxScale}, {-7, 0, maxScale}, {0, 4, maxScale}, {0, -4, maxScale}, {7, 4, maxScale},
		{360, 0, 3600}, {-360, 0, 3600}, {360, 90, 3600}, {2 * turn / 3600, 0, 3600},
		{maxFlat, 0, 1}, {-maxFlat, 0, 1}, {0, maxFlat, 1}, {0, -maxFlat, 1}, {maxFlat, maxFlat, maxScale}, {-maxFlat, -maxFlat, maxScale}, {0, maxFlat, maxScale}, {maxFlat, 0, maxScale},
	} {
		checkRead(t, impl.Flat{X: x.x, Y: x.y}, x.scale, false, impl.Spot{}, false)
	}
}

func TestWaveBack(t *testing.T) {
	for _, x := range []struct{ x, y, scale, lat, lon int64 }{
		{100, 0, 3600, 0, 360000}, {50, 60, 3600, 216000, 360000}, {50, -60, 3600, -216000, 360000}, {-50, 60, 3600, 216000, -360000}, {0, 0, maxScale, 0, 0},
		// At the poles.
		{0, 90, 3600, quarter, 0}, {0, -90, 3600, -quarter, 0}, {0, quarter, 1, quarter, 0}, {0, -quarter, 1, -quarter, 0},
		// Just at the edges of the sphere, at the equator and at parallels.
		{half - 1, 0, 1, 0, half - 1}, {-half, 0, 1, 0, -half}, {179, 0, 3600, 0, 644400}, {-180, 0, 3600, 0, -half}, {6, 0, maxScale, 0, 600000}, {-6, 0, maxScale, 0, -600000},
		{89, 60, 3600, 216000, 640800}, {-90, 60, 3600, 216000, -half}, {quarter - 1, 216000, 1, 216000, half - 2}, {-quarter, 216000, 1, 216000, -half}, {3, 2, maxScale, 200000, 530854},
		{3, quarter - 1, 1, quarter - 1, 600000}, {-3, quarter - 1, 1, quarter - 1, -600000},
		// The cosine of 180496 is 640000: quotients of just a half, just less and just more, above and below 0.
		{8, 180496, 1, 180496, 13}, {-8, 180496, 1, 180496, -12}, {24, -180496, 1, -180496, 38}, {-24, -180496, 1, -180496, -37}, {4, 45124, 4, 180496, 25}, {-4, 45124, 4, 180496, -25},
		{2, 45124, 4, 180496, 13}, {-2, 45124, 4, 180496, -12}, {7, 180496, 1, 180496, 11}, {-7, 180496, 1, 180496, -11}, {9, 180496, 1, 180496, 14}, {-9, 180496, 1, 180496, -14},
	} {
		checkRead(t, impl.Flat{X: x.x, Y: x.y}, x.scale, true, impl.Spot{Lat: x.lat, Lon: x.lon}, true)
	}
	for _, x := range []struct{ x, y, scale int64 }{
		// At the poles, X must be 0, and beyond them there is nothing.
		{1, 90, 3600}, {-1, 90, 3600}, {1, -90, 3600}, {-1, -90, 3600}, {1, quarter, 1}, {-1, -quarter, 1}, {maxFlat, quarter, 1}, {-maxFlat, -quarter, 1}, {180, 90, 3600},
		{0, 91, 3600}, {0, -91, 3600}, {0, quarter + 1, 1}, {0, -quarter - 1, 1}, {5, 91, 3600}, {-5, -91, 3600}, {0, 4, maxScale}, {0, -4, maxScale},
		// One beyond the edges.
		{half, 0, 1}, {-half - 1, 0, 1}, {180, 0, 3600}, {-181, 0, 3600}, {7, 0, maxScale}, {-7, 0, maxScale}, {90, 60, 3600}, {-91, 60, 3600}, {quarter, 216000, 1}, {-quarter - 1, 216000, 1},
		{4, 2, maxScale}, {-4, 2, maxScale}, {4, quarter - 1, 1}, {-4, quarter - 1, 1},
		// X * scale of -Turn and Turn, and one beyond, at the equator, at parallels and at the poles.
		{turn, 0, 1}, {turn + 1, 0, 1}, {-turn, 0, 1}, {-turn - 1, 0, 1}, {turn, 216000, 1}, {turn + 1, 216000, 1}, {-turn, 216000, 1}, {-turn - 1, 216000, 1},
		{turn, quarter, 1}, {turn + 1, quarter, 1}, {-turn, -quarter, 1}, {-turn - 1, -quarter, 1}, {360, 0, 3600}, {361, 0, 3600}, {-360, 0, 3600}, {-361, 0, 3600},
		{360, 90, 3600}, {-360, -90, 3600}, {360, 91, 3600}, {12, 0, maxScale}, {13, 0, maxScale}, {-12, 3, maxScale}, {-13, 3, maxScale},
		// Beyond the poles, where cosines are negative, X could be read as 0.
		{-1, quarter + 216000, 1}, {1, quarter + 216000, 1}, {100, half, 1}, {100, turn, 1}, {100, 360, 3600}, {0, 360, 3600}, {0, -360, 3600}, {0, turn, 1}, {0, -turn, 1},
		{maxFlat, 0, 1}, {-maxFlat, 0, 1}, {0, maxFlat, 1}, {0, -maxFlat, 1}, {maxFlat, maxFlat, maxScale}, {-maxFlat, -maxFlat, maxScale}, {0, maxFlat, maxScale}, {maxFlat, 0, maxScale},
		{maxFlat, 3, maxScale}, {-maxFlat, 3, maxScale},
	} {
		checkRead(t, impl.Flat{X: x.x, Y: x.y}, x.scale, true, impl.Spot{}, false)
	}
}

func TestReadPlacesFollowTheRule(t *testing.T) {
	r := rand.New(rand.NewSource(19))
	for _, scale := range drawnScales() {
		flats := drawnFlats(scale)
		for range 100 {
			flats = append(flats, impl.Flat{X: r.Int63n(3*half/scale+1) - half*3/2/scale, Y: r.Int63n(3*quarter/scale+1) - quarter*3/2/scale})
		}
		for _, f := range flats {
			for _, wave := range bothKinds() {
				want, belongs := ruleSpot(f, scale, wave)
				checkRead(t, f, scale, wave, want, belongs)
			}
		}
	}
}

func commonDivisor(a, b int64) int64 {
	return new(big.Int).GCD(nil, nil, big.NewInt(a), big.NewInt(b)).Int64()
}

// On parallels whose cosine has the divisor 128, some longitudes that are read are just a half before they are rounded: with s the least
// number for which 2 * s * Unit has the cosine as a divisor, that of s is n / 2 with an odd n.
func TestHalvesOfReadLongitudes(t *testing.T) {
	for below, along := range ruleQuarter() {
		if along == 0 || along%128 != 0 {
			continue
		}
		lat := quarter - int64(below)
		divisor := commonDivisor(along, 2*unit)
		s, n := along/divisor, 2*unit/divisor
		for _, x := range []impl.Spot{{Lat: lat, Lon: (n + 1) / 2}, {Lat: -lat, Lon: (n + 1) / 2}} {
			checkRead(t, impl.Flat{X: s, Y: x.Lat}, 1, true, x, true)
			x.Lon = (1 - n) / 2
			checkRead(t, impl.Flat{X: -s, Y: x.Lat}, 1, true, x, true)
		}
	}
}

func TestLossOf(t *testing.T) {
	for _, x := range []struct {
		lat, lon, scale int64
		wave            bool
		want            pairResult
	}{
		{1000, 2000, 3600, false, pairResult{-1000, 1600, impl.OK}}, {0, 0, maxScale, false, pairResult{0, 0, impl.OK}}, {0, 0, maxScale, true, pairResult{0, 0, impl.OK}},
		{1800, 1800, 3600, false, pairResult{1800, 1800, impl.OK}}, {-1800, -1800, 3600, false, pairResult{1800, 1800, impl.OK}}, {-1801, 1799, 3600, false, pairResult{-1799, -1799, impl.OK}},
		{quarter, half - 1, 1, false, pairResult{0, 0, impl.OK}}, {-quarter, -half, 1, false, pairResult{0, 0, impl.OK}}, {quarter, 5000, 3600, false, pairResult{0, -1400, impl.OK}},
		{1000, 2000, 3600, true, pairResult{-1000, 1600, impl.OK}}, {216000, 1, 1, true, pairResult{0, 1, impl.OK}}, {216000, -1, 1, true, pairResult{0, 1, impl.OK}},
		{216000, 3599, 3600, true, pairResult{0, -3599, impl.OK}}, {216000, 3600, 3600, true, pairResult{0, 3600, impl.OK}}, {215000, 3700, 3600, true, pairResult{1000, 3500, impl.OK}},
		// At the poles of the wave projection, all longitudes are lost.
		{quarter, 0, 1, true, pairResult{0, 0, impl.OK}}, {quarter, 5000, 3600, true, pairResult{0, -5000, impl.OK}}, {-quarter, 5000, 3600, true, pairResult{0, -5000, impl.OK}},
		{quarter, half - 1, 1, true, pairResult{0, 1 - half, impl.OK}}, {-quarter, -half, 1, true, pairResult{0, half, impl.OK}}, {quarter - 1800, 100000, 3600, true, pairResult{1800, -100000, impl.OK}},
		{quarter - 1, half - 1, 1, true, pairResult{0, 600000 - half + 1, impl.OK}},
		// What is read lies beyond the edges of the sphere, or just at them.
		{0, half - 1, 3600, false, pairResult{0, 0, impl.ErrGap}}, {0, half - 1801, 3600, false, pairResult{0, -1799, impl.OK}}, {0, half - 1800, 3600, false, pairResult{0, 0, impl.ErrGap}},
		{0, -half, 5000, false, pairResult{0, 0, impl.ErrGap}}, {0, -half, 86400, false, pairResult{0, 43200, impl.OK}}, {0, -half, 86400, true, pairResult{0, 43200, impl.OK}},
		{0, half - 1, 86400, false, pairResult{0, -43199, impl.OK}}, {0, half - 1, 86400, true, pairResult{0, -43199, impl.OK}},
		{quarter, 0, 5000, false, pairResult{0, 0, impl.ErrGap}}, {-quarter, 0, 5000, true, pairResult{0, 0, impl.ErrGap}}, {quarter, 0, 72000, true, pairResult{0, 0, impl.ErrGap}},
		{-quarter, 0, 72000, true, pairResult{36000, 0, impl.OK}}, {-quarter, 0, 72000, false, pairResult{36000, 0, impl.OK}}, {quarter, 0, 72000, false, pairResult{0, 0, impl.ErrGap}},
		{216000, half - 1, 1, true, pairResult{0, 0, impl.ErrGap}}, {216000, half - 2, 1, true, pairResult{0, 0, impl.OK}}, {216000, -half, 1, true, pairResult{0, 0, impl.OK}},
		// What is read lies at a pole, but X is not 0.
		{quarter - 1800, half - 1, 3600, true, pairResult{0, 0, impl.ErrGap}}, {quarter - 1800, half - 1, 3600, false, pairResult{0, 0, impl.ErrGap}},
		{quarter - 1800, -half, 3600, true, pairResult{0, 0, impl.ErrGap}}, {1799 - quarter, half - 1, 3600, true, pairResult{0, 0, impl.ErrGap}},
	} {
		p := impl.Spot{Lat: x.lat, Lon: x.lon}
		same(t, fmt.Sprint("LossOf ", name(p), " ", x.scale, x.wave), pairOf(impl.LossOf(p, x.scale, x.wave)), x.want)
	}
}

func checkBest(t *testing.T, list []impl.Spot, most int64, wave bool, want result) {
	t.Helper()
	same(t, fmt.Sprint("BestScale ", list, most, wave), resultOf(impl.BestScale(list, most, wave)), want)
}

func TestBestScale(t *testing.T) {
	// All scales are good for no places, and for places that lie on whole units of all of them.
	for _, most := range lossArgument.right {
		for _, wave := range bothKinds() {
			checkBest(t, nil, most, wave, result{bestScale, impl.OK})
			checkBest(t, []impl.Spot{}, most, wave, result{bestScale, impl.OK})
			checkBest(t, make([]impl.Spot, maxSearched), most, wave, result{bestScale, impl.OK})
			checkBest(t, onMeridian(quarter, -quarter, 0, 216000), most, wave, result{bestScale, impl.OK})
		}
	}
	for _, wave := range bothKinds() {
		for lat, want := range map[int64]int64{1000: 1000, 1009: 1, -1009: 1, 2018: 2, 1500: 750, 999: 999, -999: 999, 0: 1000, 1: 1, 1001: 143, -3600: 900} {
			checkBest(t, onMeridian(lat), 0, wave, result{want, impl.OK})
			checkBest(t, onEquator(lat), 0, wave, result{want, impl.OK})
		}
		// With the scale 750 the place is lost by 100, with 600 by 200, with 700 not at all.
		for most, want := range map[int64]int64{0: 700, 99: 749, 100: 750, 199: 799, 200: 800, 398: 899, 399: 899, 400: 1000, maxLoss: 1000} {
			checkBest(t, onMeridian(1400), most, wave, result{want, impl.OK})
			checkBest(t, onMeridian(-1400), most, wave, result{want, impl.OK})
			checkBest(t, onEquator(1400), most, wave, result{want, impl.OK})
			checkBest(t, onEquator(-1400), most, wave, result{want, impl.OK})
		}
		// Each place takes part, and its latitude as well as its longitude.
		checkBest(t, onMeridian(900, 600), 0, wave, result{300, impl.OK})
		checkBest(t, onMeridian(600, 900, 1000, 600), 0, wave, result{100, impl.OK})
		checkBest(t, []impl.Spot{{Lon: 900}, {Lat: -600}}, 0, wave, result{300, impl.OK})
		checkBest(t, append(make([]impl.Spot, maxSearched-1), impl.Spot{Lat: 1009}), 0, wave, result{1, impl.OK})
		checkBest(t, append([]impl.Spot{{Lon: 1009}}, make([]impl.Spot, maxSearched-1)...), 0, wave, result{1, impl.OK})
		checkBest(t, onEquator(half-1), 0, wave, result{11, impl.OK})
		checkBest(t, onEquator(-half), 0, wave, result{1000, impl.OK})
	}
	checkBest(t, []impl.Spot{{Lat: 900, Lon: -600}}, 0, false, result{300, impl.OK})
	checkBest(t, []impl.Spot{{Lat: quarter, Lon: 1009}}, 0, false, result{1, impl.OK})
}

func TestNoBestScale(t *testing.T) {
	// All longitudes are lost at a pole, and near to it many of them.
	for _, lat := range []int64{quarter, -quarter} {
		for lon, least := range map[int64]int64{1: 1, -1: 1, 999: 999, 1000: 1000, -1000: 1000} {
			checkBest(t, []impl.Spot{{Lat: lat, Lon: lon}}, least, true, result{bestScale, impl.OK})
			checkBest(t, []impl.Spot{{Lat: lat, Lon: lon}}, least-1, true, notFound)
			checkBest(t, []impl.Spot{{}, {Lat: lat, Lon: lon}, {}}, least-1, true, notFound)
		}
		for _, lon := range []int64{1001, -1001, 5000, half - 1, -half} {
			checkBest(t, []impl.Spot{{Lat: lat, Lon: lon}}, maxLoss, true, notFound)
			checkBest(t, append(make([]impl.Spot, maxSearched-1), impl.Spot{Lat: lat, Lon: lon}), maxLoss, true, notFound)
		}
	}
	checkBest(t, []impl.Spot{{Lat: quarter - 1, Lon: 500}}, 499, true, notFound)
	checkBest(t, []impl.Spot{{Lat: quarter - 1, Lon: 500}}, 500, true, result{bestScale, impl.OK})
	// With the scale 1, this place is lost by 1, and with 2 by 2.
	checkBest(t, []impl.Spot{{Lat: 216000, Lon: 1}}, 0, true, notFound)
	checkBest(t, []impl.Spot{{Lat: 216000, Lon: 1}}, 1, true, result{bestScale, impl.OK})
	checkBest(t, []impl.Spot{{Lat: 216000, Lon: half - 1}}, 0, true, notFound)
	checkBest(t, []impl.Spot{{Lat: 216000, Lon: half - 1}}, maxLoss, true, result{969, impl.OK})
	// Each of these places has a good scale, but both together have none.
	near, far := impl.Spot{Lon: 3}, impl.Spot{Lat: 216000, Lon: half - 1}
	checkBest(t, []impl.Spot{near}, 1, true, result{4, impl.OK})
	checkBest(t, []impl.Spot{far}, 1, true, result{7, impl.OK})
	checkBest(t, []impl.Spot{near, far}, 1, true, notFound)
	checkBest(t, []impl.Spot{far, near}, 1, true, notFound)
}

func TestBestScalesFollowTheRule(t *testing.T) {
	r := rand.New(rand.NewSource(20))
	spots := append(drawnSpots(), nearPoles()...)
	for _, many := range []int{1, 1, 1, 1, 1, 2, 3, 7, maxSearched} {
		for _, most := range []int64{0, 1, 10, 200, 499, 500, maxLoss} {
			list := make([]impl.Spot, many)
			for i := range list {
				list[i] = spots[r.Intn(len(spots))]
			}
			for _, wave := range bothKinds() {
				checkBest(t, list, most, wave, ruleBest(t, list, most, wave))
			}
		}
	}
}

func checkBox(t *testing.T, list []impl.Spot, scale int64, wave bool, want boxResult) {
	t.Helper()
	what := fmt.Sprint("FlatBox of ", len(list), " ", scale, wave)
	same(t, what, boxOf(impl.FlatBox(list, scale, wave)), want)
}

// boxed returns a box with its corners.
func boxed(x, y, u, v int64) boxResult {
	return boxResult{impl.Flat{X: x, Y: y}, impl.Flat{X: u, Y: v}, impl.OK}
}

func TestFlatBox(t *testing.T) {
	p := impl.Spot{Lat: 7200, Lon: -3600}
	for _, wave := range bothKinds() {
		checkBox(t, []impl.Spot{p, {Lon: 7200}}, 3600, wave, boxed(-1, 0, 2, 2))
		checkBox(t, []impl.Spot{{Lon: 7200}, p}, 3600, wave, boxed(-1, 0, 2, 2))
		checkBox(t, []impl.Spot{p}, 3600, wave, boxed(-1, 2, -1, 2))
		checkBox(t, []impl.Spot{p, p, p}, 3600, wave, boxed(-1, 2, -1, 2))
		// The least and the greatest numbers are those of four places, of which none is at a corner.
		checkBox(t, []impl.Spot{{Lat: 3600, Lon: -18000}, {Lat: -36000}, {Lat: 25200, Lon: 3600}, {Lon: 10800}}, 3600, wave, boxed(-5, -10, 3, 7))
		checkBox(t, []impl.Spot{{Lat: -3600, Lon: -7200}, {Lat: -7200, Lon: -3600}}, 3600, wave, boxed(-2, -2, -1, -1))
		checkBox(t, make([]impl.Spot, 100), 1, wave, boxed(0, 0, 0, 0))
		checkBox(t, append(make([]impl.Spot, 99), impl.Spot{Lat: 7200, Lon: 3600}), 3600, wave, boxed(0, 0, 1, 2))
		checkBox(t, append([]impl.Spot{{Lat: -7200, Lon: -3600}}, make([]impl.Spot, 99)...), 3600, wave, boxed(-1, -2, 0, 0))
		checkBox(t, []impl.Spot{{Lon: half - 1}, {Lon: -half}}, maxScale, wave, boxed(-6, 0, 6, 0))
	}
	// What is read from a place need not belong to the sphere.
	checkBox(t, []impl.Spot{{Lat: quarter, Lon: half - 1}, {Lat: -quarter, Lon: -half}}, 5000, false, boxed(-130, -65, 130, 65))
	checkBox(t, []impl.Spot{{Lat: quarter, Lon: half - 1}, {Lat: -quarter, Lon: -half}}, 5000, true, boxed(0, -65, 0, 65))
	checkBox(t, []impl.Spot{{Lat: quarter, Lon: half - 1}, {Lat: -quarter, Lon: -half}}, 1, false, boxed(-half, -quarter, half-1, quarter))
	checkBox(t, []impl.Spot{{Lat: 216000, Lon: 360000}, {Lon: -3600}}, 3600, true, boxed(-1, 0, 50, 60))
	checkBox(t, []impl.Spot{{Lat: 216000, Lon: 360000}, {Lon: -3600}}, 3600, false, boxed(-1, 0, 100, 60))
}

func TestFlatBoxesFollowTheRule(t *testing.T) {
	r := rand.New(rand.NewSource(21))
	spots := append(drawnSpots(), nearPoles()...)
	for _, many := range []int{1, 2, 3, 10, maxBoxed - 1, maxBoxed} {
		for _, scale := range drawnScales() {
			list := make([]impl.Spot, many)
			for i := range list {
				list[i] = spots[r.Intn(len(spots))]
			}
			for _, wave := range bothKinds() {
				var xs, ys []int64
				for _, p := range list {
					f := ruleFlat(p, scale, wave)
					xs, ys = append(xs, f.X), append(ys, f.Y)
				}
				checkBox(t, list, scale, wave, boxed(slices.Min(xs), slices.Min(ys), slices.Max(xs), slices.Max(ys)))
			}
		}
	}
}

func TestStretchAt(t *testing.T) {
	for lat, want := range map[int64]int64{
		0: 1000, 1: 1000, 204: 1000, 216000: 2000, 307708: 12500, quarter - 1: 200000000, quarter - 2: 100000000,
		// Just a half.
		180496: 1563,
	} {
		same(t, fmt.Sprint("StretchAt ", lat), resultOf(impl.StretchAt(lat)), result{want, impl.OK})
		same(t, fmt.Sprint("StretchAt ", -lat), resultOf(impl.StretchAt(-lat)), result{want, impl.OK})
	}
	for _, lat := range append(drawnLats(), drawnNorthLats()...) {
		want := noTangent
		if along := ruleSine(lat + quarter); along != 0 {
			want = result{roundedQuotient(big.NewInt(1000*unit), big.NewInt(along)), impl.OK}
		}
		same(t, fmt.Sprint("StretchAt ", lat), resultOf(impl.StretchAt(lat)), want)
	}
	for _, lat := range []int64{quarter, -quarter} {
		same(t, fmt.Sprint("StretchAt ", lat), resultOf(impl.StretchAt(lat)), result{0, impl.ErrState})
	}
	for _, lat := range wrongLats() {
		same(t, fmt.Sprint("StretchAt ", lat), resultOf(impl.StretchAt(lat)), outOfRange)
	}
}

func TestWrongSpotsAreNotDrawn(t *testing.T) {
	for _, p := range wrongSpots() {
		for _, scale := range append(scaleArgument.right, scaleArgument.wrong...) {
			for _, wave := range bothKinds() {
				what := fmt.Sprint(name(p), " ", scale, wave)
				same(t, "place of "+what, flatOf(p, scale, wave), codedOf(impl.Flat{}, impl.ErrInvalid))
				same(t, "LossOf "+what, pairOf(impl.LossOf(p, scale, wave)), pairResult{0, 0, impl.ErrInvalid})
			}
		}
	}
}

func TestWrongScales(t *testing.T) {
	for _, scale := range scaleArgument.wrong {
		for _, wave := range bothKinds() {
			for _, p := range append(drawnSpots(), nearPoles()...) {
				what := fmt.Sprint(name(p), " ", scale, wave)
				same(t, "place of "+what, flatOf(p, scale, wave), codedOf(impl.Flat{}, impl.ErrRange))
				same(t, "LossOf "+what, pairOf(impl.LossOf(p, scale, wave)), pairResult{0, 0, impl.ErrRange})
			}
		}
	}
}

// A flat place or a scale that does not keep to its limits is refused before it is looked whether the place belongs to the sphere.
func TestWrongFlats(t *testing.T) {
	for _, x := range wrongValues(flatArgument, flatArgument, scaleArgument) {
		f, scale := impl.Flat{X: x[0], Y: x[1]}, x[2]
		for _, wave := range bothKinds() {
			what := fmt.Sprint(f, scale, wave)
			same(t, "read from "+what, spotOf(f, scale, wave), codedOf(impl.Spot{}, impl.ErrRange))
			same(t, "OnMap "+what, codedOf(impl.OnMap(f, scale, wave)), codedOf(false, impl.ErrRange))
		}
	}
}

// wrongBoxed and wrongSearched are numbers of places that a list must not have.
func wrongBoxed() []int { return []int{maxBoxed + 1, maxBoxed + 2, 1000, 100000} }

func wrongSearched() []int { return []int{maxSearched + 1, maxSearched + 2, maxBoxed, 1000, 100000} }

func TestErrorsOfBestScale(t *testing.T) {
	outOfMap := impl.Spot{Lat: quarter, Lon: 5000}
	for _, wave := range bothKinds() {
		for _, most := range lossArgument.wrong {
			for _, many := range append(wrongSearched(), 0, 1, maxSearched) {
				same(t, fmt.Sprint("BestScale of ", many, most), resultOf(impl.BestScale(make([]impl.Spot, many), most, wave)), outOfRange)
			}
			// Also where there would be no good scale.
			checkBest(t, []impl.Spot{outOfMap}, most, wave, outOfRange)
		}
		for _, most := range lossArgument.right {
			for _, many := range wrongSearched() {
				list := make([]impl.Spot, many)
				list[0] = outOfMap
				same(t, fmt.Sprint("BestScale of ", many, most), resultOf(impl.BestScale(list, most, wave)), outOfRange)
			}
		}
	}
}

func TestErrorsOfFlatBox(t *testing.T) {
	for _, wave := range bothKinds() {
		for _, scale := range scaleArgument.right {
			checkBox(t, nil, scale, wave, boxResult{code: impl.ErrNotFound})
			checkBox(t, []impl.Spot{}, scale, wave, boxResult{code: impl.ErrNotFound})
		}
		// A wrong scale is refused before a list without places.
		for _, scale := range scaleArgument.wrong {
			for _, many := range append(wrongBoxed(), 0, 1, maxBoxed) {
				checkBox(t, make([]impl.Spot, many), scale, wave, boxResult{code: impl.ErrRange})
			}
		}
		for _, scale := range scaleArgument.right {
			for _, many := range wrongBoxed() {
				checkBox(t, make([]impl.Spot, many), scale, wave, boxResult{code: impl.ErrRange})
			}
		}
	}
}

// One invalid place at any place of a list is refused before all other errors.
func TestInvalidSpotsInListsOfMaps(t *testing.T) {
	for _, wrong := range wrongSpots() {
		for _, many := range []int{1, 2, maxSearched, maxSearched + 1, maxBoxed, maxBoxed + 1, 1000} {
			for _, at := range []int{0, many / 2, many - 1} {
				list := make([]impl.Spot, many)
				list[at] = wrong
				for _, wave := range bothKinds() {
					for _, scale := range append(scaleArgument.right, scaleArgument.wrong...) {
						checkBox(t, list, scale, wave, boxResult{code: impl.ErrInvalid})
					}
					for _, most := range append(lossArgument.right, lossArgument.wrong...) {
						same(t, fmt.Sprint("BestScale of ", many, most), resultOf(impl.BestScale(list, most, wave)), invalid)
					}
				}
			}
		}
	}
}
