package tests

import (
	"math"
	"math/rand"
	"slices"
	"strconv"
	"strings"
	"testing"

	"loop.example/g01055/impl"
)

// The values below repeat the numbers of the document, so that a changed constant is noticed.
const (
	turn     = 1296000
	half     = 648000
	quarter  = 324000
	maxAngle = 1000000000
	unit     = 1000000
	maxTable = 100
)

func same[T comparable](t *testing.T, what string, got, want T) {
	t.Helper()
	if got != want {
		t.Errorf("%s: got %v, want %v", what, got, want)
	}
}

// checkList looks at a list that is told with its code, which has to be OK.
func checkList[E comparable](t *testing.T, what string, got []E, code int64, want ...E) {
	t.Helper()
	same(t, what, code, impl.OK)
	if !slices.Equal(got, want) {
		t.Errorf("%s: got %#v, want %#v", what, got, want)
	}
}

// quoted returns a text for a message; a long one is cut off.
func quoted(s string) string {
	if len(s) > 60 {
		return strconv.Quote(s[:60]) + ".."
	}
	return strconv.Quote(s)
}

// drawnAngles returns the angles at which something changes, and some more that are always the same.
func drawnAngles() []int64 {
	list := []int64{-maxAngle, -maxAngle + 1, maxAngle - 1, maxAngle}
	for k := int64(-4); k <= 4; k++ {
		for d := int64(-1); d <= 1; d++ {
			list = append(list, k*quarter+d, k*turn+d, k*turn+half+d)
		}
	}
	for _, k := range []int64{-771, -770, 770, 771} {
		list = append(list, k*turn, k*turn+half, k*turn-half, k*turn+1, k*turn-1)
	}
	r := rand.New(rand.NewSource(2))
	for range 200 {
		list = append(list, r.Int63n(2*maxAngle+1)-maxAngle)
	}
	return list
}

// drawnSpots returns both poles, the ends of latitudes and longitudes, and some more valid spots.
func drawnSpots() []impl.Spot {
	var list []impl.Spot
	for _, lat := range []int64{-quarter, -quarter + 1, -3600, -1, 0, 1, 59, 60, 3599, 187230, quarter - 1, quarter} {
		for _, lon := range []int64{-half, -half + 1, -quarter, -4500, -1, 0, 1, 60, 3600, quarter, half - 2, half - 1} {
			list = append(list, impl.Spot{Lat: lat, Lon: lon})
		}
	}
	r := rand.New(rand.NewSource(3))
	for range 100 {
		list = append(list, impl.Spot{Lat: r.Int63n(2*quarter+1) - quarter, Lon: r.Int63n(turn) - half})
	}
	return list
}

// wrongSpots returns spots with a latitude or a longitude that is not valid.
func wrongSpots() []impl.Spot {
	return []impl.Spot{
		{Lat: quarter + 1}, {Lat: -quarter - 1}, {Lon: half}, {Lon: -half - 1}, {Lon: turn}, {Lon: -turn},
		{Lat: quarter + 1, Lon: half}, {Lat: -quarter - 1, Lon: -half - 1},
		{Lat: math.MaxInt64}, {Lat: math.MinInt64}, {Lon: math.MaxInt64}, {Lon: math.MinInt64},
		{Lat: math.MinInt64, Lon: math.MinInt64}, {Lat: math.MaxInt64, Lon: math.MaxInt64},
	}
}

// wrongAngles returns numbers that are no angles.
func wrongAngles() []int64 {
	return []int64{-maxAngle - 1, maxAngle + 1, math.MinInt64, math.MinInt64 + 1, math.MaxInt64 - 1, math.MaxInt64}
}

// wrongLats returns numbers that are no latitudes.
func wrongLats() []int64 {
	return []int64{quarter + 1, -quarter - 1, half, -half, turn, -turn, math.MinInt64, math.MaxInt64}
}

// nearTexts returns the texts that differ from s by one character that is left out, put in or replaced.
func nearTexts(s, characters string) []string {
	var list []string
	for i := 0; i <= len(s); i++ {
		for _, c := range characters {
			list = append(list, s[:i]+string(c)+s[i:])
			if i < len(s) {
				list = append(list, s[:i]+string(c)+s[i+1:])
			}
		}
		if i < len(s) {
			list = append(list, s[:i]+s[i+1:], s[:i])
		}
	}
	return append(list, strings.ToUpper(s), s+s, s+" "+s)
}
