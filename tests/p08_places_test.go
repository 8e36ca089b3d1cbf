package tests

import (
	"fmt"
	"math/rand"
	"testing"

	"loop.example/g01055/impl"
)

// spotsForMaps has places all over the sphere.
func spotsForMaps() []impl.Spot {
	list := append(drawnSpots(), nearPoles()...)
	r := rand.New(rand.NewSource(22))
	for range 200 {
		list = append(list, impl.Spot{Lat: r.Int63n(2*quarter+1) - quarter, Lon: r.Int63n(turn) - half})
	}
	return list
}

// widthOf returns how wide a parallel is drawn, in millionths of the equator.
func widthOf(t *testing.T, lat int64, wave bool) int64 {
	t.Helper()
	if !wave {
		return unit
	}
	width, code := impl.CosineOf(lat)
	same(t, "CosineOf", code, impl.OK)
	return width
}

// checkNear looks at a place p that was drawn and then read as q. To the north it moves by half a unit at most, and to the south by less.
// Along the parallel, it moves by half a unit and half the width of a second at most.
func checkNear(t *testing.T, p, q impl.Spot, scale int64, wave bool) {
	t.Helper()
	what := fmt.Sprint(name(p), " ", scale, wave, " is read as ", name(q))
	if north := 2 * (q.Lat - p.Lat); north <= -scale || north > scale {
		t.Errorf("%s: too far to the north or to the south", what)
	}
	before, after := widthOf(t, p.Lat, wave), widthOf(t, q.Lat, wave)
	if after == 0 {
		same(t, what+": the longitude of a pole", q.Lon, 0)
	}
	if east := 2 * (q.Lon*after - p.Lon*before); east < -scale*unit-after || east > scale*unit+after {
		t.Errorf("%s: too far along the parallel", what)
	}
	// On the square projection, longitudes are read as near as latitudes.
	if east := 2 * (q.Lon - p.Lon); !wave && (east <= -scale || east > scale) {
		t.Errorf("%s: too far to the east or to the west", what)
	}
}

func TestPlacesAreReadNearToWhereTheyAre(t *testing.T) {
	for _, scale := range drawnScales() {
		for _, p := range spotsForMaps() {
			for _, wave := range bothKinds() {
				what := fmt.Sprint(name(p), " ", scale, wave)
				flat := flatOf(p, scale, wave)
				same(t, "place of "+what, flat.code, impl.OK)
				read := spotOf(flat.value, scale, wave)
				same(t, "OnMap "+what, codedOf(impl.OnMap(flat.value, scale, wave)), codedOf(read.code == impl.OK, impl.OK))
				loss := pairResult{read.value.Lat - p.Lat, read.value.Lon - p.Lon, impl.OK}
				if read.code == impl.OK {
					checkNear(t, p, read.value, scale, wave)
				} else {
					same(t, "read from the place of "+what, read, codedOf(impl.Spot{}, impl.ErrNotFound))
					loss = pairResult{0, 0, impl.ErrGap}
				}
				same(t, "LossOf "+what, pairOf(impl.LossOf(p, scale, wave)), loss)
			}
		}
	}
}

// Only what lies near to the edges of the sphere may be drawn beyond them: all other places are read.
func TestPlacesInTheMiddleAreRead(t *testing.T) {
	for _, scale := range drawnScales() {
		for _, p := range spotsForMaps() {
			for _, wave := range bothKinds() {
				if 2*max(p.Lat, -p.Lat) >= 2*quarter-scale {
					continue
				}
				flat := flatOf(p, scale, wave)
				q := spotOf(impl.Flat{Y: flat.value.Y}, scale, wave)
				same(t, "the meridian of "+name(p), q.code, impl.OK)
				width := widthOf(t, q.value.Lat, wave)
				// How far p lies along the parallel on which it is read.
				if east := p.Lon * widthOf(t, p.Lat, wave); 2*max(east, -east)+scale*unit+width < 2*(half-1)*width {
					same(t, fmt.Sprint("read from the place of ", name(p), " ", scale, wave), spotOf(flat.value, scale, wave).code, impl.OK)
				}
			}
		}
	}
}

// A place that was read is drawn where it was read, and read there once more.
func TestReadPlacesAreDrawnWhereTheyWere(t *testing.T) {
	r := rand.New(rand.NewSource(23))
	for _, scale := range drawnScales() {
		flats := drawnFlats(scale)
		for range 200 {
			flats = append(flats, impl.Flat{X: r.Int63n(turn/scale+1) - half/scale, Y: r.Int63n(2*quarter/scale+1) - quarter/scale})
		}
		for _, f := range flats {
			for _, wave := range bothKinds() {
				what := fmt.Sprint(f, scale, wave)
				read := spotOf(f, scale, wave)
				belongs, code := impl.OnMap(f, scale, wave)
				same(t, "OnMap "+what, code, impl.OK)
				same(t, "OnMap "+what, belongs, read.code == impl.OK)
				if belongs {
					same(t, "what is read from "+what+" is valid", impl.ValidSpot(read.value), true)
					same(t, "place of what is read from "+what, flatOf(read.value, scale, wave), codedOf(f, impl.OK))
					same(t, "LossOf what is read from "+what, pairOf(impl.LossOf(read.value, scale, wave)), pairResult{0, 0, impl.OK})
				}
			}
		}
	}
}

func TestNothingIsLostOnTheSquareProjectionWithTheScaleOne(t *testing.T) {
	for _, p := range spotsForMaps() {
		same(t, "PlateOf "+name(p), flatOf(p, 1, false), codedOf(impl.Flat{X: p.Lon, Y: p.Lat}, impl.OK))
		same(t, "LossOf "+name(p), pairOf(impl.LossOf(p, 1, false)), pairResult{0, 0, impl.OK})
	}
}

// With the told scale, all places are read near enough, and with no greater one; if none is told, no scale is good.
func TestToldScalesAreTheBestOnes(t *testing.T) {
	spots := spotsForMaps()
	r := rand.New(rand.NewSource(24))
	for _, many := range []int{1, 1, 1, 2, 3, maxSearched} {
		for _, most := range []int64{0, 1, 30, 499, 500, maxLoss} {
			list := make([]impl.Spot, many)
			for i := range list {
				list[i] = spots[r.Intn(len(spots))]
			}
			for _, wave := range bothKinds() {
				best, code := impl.BestScale(list, most, wave)
				if code == impl.ErrNotFound {
					best = 0
				} else {
					same(t, "BestScale", code, impl.OK)
				}
				for scale := max(best, 1); scale <= bestScale; scale++ {
					good := true
					for _, p := range list {
						good = good && isSmall(t, p, scale, most, wave)
					}
					same(t, fmt.Sprint(list, " is read near enough with ", scale, most, wave), good, scale == best)
				}
			}
		}
	}
}

// The more may be lost, the greater is the best scale. On the square projection, no more than half a unit is lost away from the edges.
func TestGreaterLossesAllowGreaterScales(t *testing.T) {
	for _, p := range spotsForMaps() {
		for _, wave := range bothKinds() {
			before := int64(0)
			for _, most := range []int64{0, 1, 7, 100, 499, 500, 999, maxLoss} {
				best, _ := impl.BestScale([]impl.Spot{p}, most, wave)
				if best < before {
					t.Errorf("BestScale %s %d %v: got %d, but with a lesser loss %d", name(p), most, wave, best, before)
				}
				before = best
			}
			if !wave && max(p.Lat, -p.Lat) < quarter-500 && max(p.Lon, -p.Lon) < half-500 {
				same(t, "BestScale "+name(p), resultOf(impl.BestScale([]impl.Spot{p}, 500, wave)), result{bestScale, impl.OK})
			}
		}
	}
}

// All places of a list lie in their box, and on each of its sides lies one of them.
func TestBoxesHoldTheirPlaces(t *testing.T) {
	spots := spotsForMaps()
	for _, scale := range drawnScales() {
		for _, many := range []int{1, 2, 5, maxBoxed} {
			list := spots[len(spots)-many-int(scale%50):][:many]
			for _, wave := range bothKinds() {
				low, high, code := impl.FlatBox(list, scale, wave)
				what := fmt.Sprint("FlatBox of ", many, " ", scale, wave)
				same(t, what, code, impl.OK)
				var west, south, east, north bool
				for _, p := range list {
					f := flatOf(p, scale, wave).value
					same(t, what+" holds "+name(p), f.X >= low.X && f.Y >= low.Y && f.X <= high.X && f.Y <= high.Y, true)
					west, south, east, north = west || f.X == low.X, south || f.Y == low.Y, east || f.X == high.X, north || f.Y == high.Y
				}
				same(t, what+" has places on all sides", west && south && east && north, true)
			}
		}
	}
}
