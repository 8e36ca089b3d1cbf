package tests

import (
	"fmt"
	"testing"

	"loop.example/g01055/impl"
)

// checkClosing returns the closing error, which has to be gores times the width less the length, and at most half the number of gores: all
// widths together are off by gores / 2 at most and the length by 1 / 2, and both sizes are not reached at once in the same direction.
func checkClosing(t *testing.T, gores, around, lat int64) int64 {
	t.Helper()
	what := fmt.Sprint(gores, around, lat)
	closing, code := impl.ClosingAt(gores, around, lat)
	same(t, "ClosingAt "+what, code, impl.OK)
	width, code := impl.GoreWidth(gores, around, lat)
	same(t, "GoreWidth "+what, code, impl.OK)
	// WidthAt of the equator's length is the length of the parallel.
	length, code := impl.WidthAt(around, lat)
	same(t, "WidthAt "+what, code, impl.OK)
	same(t, "ClosingAt "+what, closing, gores*width-length)
	if max(closing, -closing) > gores/2 {
		t.Errorf("ClosingAt %s: got %d, more than half the number of gores", what, closing)
	}
	return closing
}

func TestClosingErrorsAreSmall(t *testing.T) {
	for _, gores := range rightGores() {
		for _, lat := range drawnLats() {
			for around := int64(1); around <= 300; around++ {
				checkClosing(t, gores, around, lat)
			}
			for _, around := range drawnArounds() {
				checkClosing(t, gores, around, lat)
			}
		}
	}
}

// The greatest closing errors in both directions are reached on small globes, so no lesser bound holds.
func TestClosingErrorsReachHalfTheGores(t *testing.T) {
	for _, gores := range rightGores() {
		least, greatest := int64(0), int64(0)
		for around := int64(1); around <= 3*gores; around++ {
			closing := checkClosing(t, gores, around, 0)
			least, greatest = min(least, closing), max(greatest, closing)
		}
		same(t, fmt.Sprint("the greatest closing error of ", gores), greatest, gores/2)
		same(t, fmt.Sprint("the least closing error of ", gores), least, -(gores-1)/2)
	}
}

// All gores close at the poles, where they have no width.
func TestGoresCloseAtThePoles(t *testing.T) {
	for _, gores := range rightGores() {
		for _, around := range drawnArounds() {
			for _, lat := range []int64{quarter, -quarter} {
				same(t, "GoreWidth at a pole", resultOf(impl.GoreWidth(gores, around, lat)), result{0, impl.OK})
				same(t, "ClosingAt at a pole", resultOf(impl.ClosingAt(gores, around, lat)), result{0, impl.OK})
			}
		}
	}
}

// The worst closing error is that of its parallel, it is small, and no parallel before it has one as great, none behind it a greater one.
func TestWorstClosingErrorsAreSmall(t *testing.T) {
	for _, gores := range rightGores() {
		for _, around := range drawnArounds() {
			for _, step := range drawnParallelSteps() {
				worstLat, worst, code := impl.WorstClosing(gores, around, step)
				same(t, "WorstClosing", code, impl.OK)
				same(t, "a multiple of the step", worstLat%step, 0)
				same(t, "ClosingAt the worst parallel", checkClosing(t, gores, around, worstLat), worst)
				size := max(worst, -worst)
				for lat := int64(0); lat <= quarter; lat += step {
					here := checkClosing(t, gores, around, lat)
					if here = max(here, -here); here > size || here == size && lat < worstLat {
						t.Errorf("WorstClosing %d %d %d: got %d %d, but at %d it is %d", gores, around, step, worstLat, worst, lat, here)
					}
				}
			}
		}
	}
}
