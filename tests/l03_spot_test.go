package tests

import (
	"math"
	"testing"

	"loop.example/g00738/impl"
)

type spotCase struct {
	size  int64
	spots []int64 // of each j
	js    []int64 // of each spot
}

// writtenSpots has its numbers worked out by hand, bit by bit, so that it stands
// beside the tests below, which ask one function about the other one.
func writtenSpots() []spotCase {
	return []spotCase{
		// b 1, s 0: every bit stays
		{1, []int64{0, 1}, []int64{0, 1}},
		// b 2, s 1: the bits xy come as yx
		{2, []int64{0, 2, 1, 3}, []int64{0, 2, 1, 3}},
		// b 3, s 1: the bits xyz come as yzx
		{4, []int64{0, 2, 4, 6, 1, 3, 5, 7}, []int64{0, 4, 1, 5, 2, 6, 3, 7}},
		// b 4, s 2: the bits wxyz come as yzwx
		{
			8,
			[]int64{0, 4, 8, 12, 1, 5, 9, 13, 2, 6, 10, 14, 3, 7, 11, 15},
			[]int64{0, 4, 8, 12, 1, 5, 9, 13, 2, 6, 10, 14, 3, 7, 11, 15},
		},
	}
}

func checkNoSpot(t *testing.T, p impl.Plan, n int64) {
	t.Helper()
	if got := impl.SpotOf(p, n); got != -1 {
		t.Errorf("SpotOf(%v, %d) is %d, not -1", p, n, got)
	}
	if got := impl.Unspot(p, n); got != -1 {
		t.Errorf("Unspot(%v, %d) is %d, not -1", p, n, got)
	}
}

func TestWrittenSpots(t *testing.T) {
	for _, c := range writtenSpots() {
		for tasks := int64(1); tasks <= c.size; tasks++ {
			p := impl.Plan{Size: c.size, Tasks: tasks}
			for j, spot := range c.spots {
				if got := impl.SpotOf(p, int64(j)); got != spot {
					t.Errorf("SpotOf(%v, %d) is %d, not %d", p, j, got, spot)
				}
			}
			for spot, j := range c.js {
				if got := impl.Unspot(p, int64(spot)); got != j {
					t.Errorf("Unspot(%v, %d) is %d, not %d", p, spot, got, j)
				}
			}
		}
	}
}

// TestSpotsArePermutation holds promise 3.
func TestSpotsArePermutation(t *testing.T) {
	for _, p := range rightPlans() {
		slots := 2 * p.Size
		seen := map[int64]int64{}
		for j := int64(0); j < slots; j++ {
			spot := impl.SpotOf(p, j)
			if spot < 0 || spot >= slots {
				t.Errorf("SpotOf(%v, %d) is %d, which is no place", p, j, spot)
			}
			if other, twice := seen[spot]; twice {
				t.Errorf("%v: %d and %d both have the spot %d", p, other, j, spot)
			}
			seen[spot] = j
			if got := impl.Unspot(p, spot); got != j {
				t.Errorf("Unspot(%v, SpotOf %d) is %d", p, j, got)
			}
			if got := impl.SpotOf(p, impl.Unspot(p, j)); got != j {
				t.Errorf("SpotOf(%v, Unspot %d) is %d", p, j, got)
			}
		}
	}
}

func TestNoSpots(t *testing.T) {
	for _, p := range rightPlans() {
		slots := 2 * p.Size
		for n := int64(0); n <= 2*slots; n++ {
			checkNoSpot(t, p, -1-n)
			checkNoSpot(t, p, slots+n)
			checkNoSpot(t, p, math.MinInt64+n)
			checkNoSpot(t, p, math.MaxInt64-n)
			// cut to fewer bits, these would be right
			checkNoSpot(t, p, 1<<32+n)
			checkNoSpot(t, p, 1<<62+n)
		}
	}
}

// moreWrongPlans adds to wrongPlans the edges of each field beside those of the
// other one.
func moreWrongPlans() []impl.Plan {
	plans := wrongPlans()
	for _, c := range rightSizes() {
		for _, tasks := range []int64{0, -1, c.size + 1, math.MaxInt64, math.MinInt64} {
			plans = append(plans, impl.Plan{Size: c.size, Tasks: tasks})
		}
	}
	for _, size := range []int64{0, 3, 16, -1, -2, -8, math.MaxInt64, math.MinInt64} {
		for _, tasks := range []int64{0, 1, size, math.MaxInt64, math.MinInt64} {
			plans = append(plans, impl.Plan{Size: size, Tasks: tasks})
		}
	}
	return plans
}

func TestSpotsOfWrongPlans(t *testing.T) {
	for _, p := range moreWrongPlans() {
		for n := int64(-2); n <= 33; n++ {
			checkNoSpot(t, p, n)
		}
		checkNoSpot(t, p, math.MaxInt64)
		checkNoSpot(t, p, math.MinInt64)
	}
}
