package tests

import (
	"math"
	"testing"

	"loop.example/g00738/impl"
)

type planCase struct {
	size, slots, bits, most int64
}

func rightSizes() []planCase {
	return []planCase{
		{1, 2, 1, 2},
		{2, 4, 2, 5},
		{4, 8, 3, 11},
		{8, 16, 4, 23},
	}
}

func checkPlan(t *testing.T, p impl.Plan, ok bool, slots, bits, most int64) {
	t.Helper()
	if got := impl.PlanOk(p); got != ok {
		t.Errorf("PlanOk(%v) is %v, not %v", p, got, ok)
	}
	if got := impl.SlotsOf(p); got != slots {
		t.Errorf("SlotsOf(%v) is %d, not %d", p, got, slots)
	}
	if got := impl.BitsOf(p); got != bits {
		t.Errorf("BitsOf(%v) is %d, not %d", p, got, bits)
	}
	if got := impl.MostOf(p); got != most {
		t.Errorf("MostOf(%v) is %d, not %d", p, got, most)
	}
}

func checkNoPlan(t *testing.T, p impl.Plan) {
	t.Helper()
	checkPlan(t, p, false, -1, -1, -1)
}

func TestRightPlans(t *testing.T) {
	for _, c := range rightSizes() {
		for tasks := int64(1); tasks <= c.size; tasks++ {
			checkPlan(t, impl.Plan{Size: c.size, Tasks: tasks}, true, c.slots, c.bits, c.most)
		}
	}
}

func TestPlansOfWrongTasks(t *testing.T) {
	for _, c := range rightSizes() {
		for _, tasks := range []int64{0, -1, -c.size, c.size + 1, 2 * c.size, math.MaxInt64, math.MinInt64} {
			checkNoPlan(t, impl.Plan{Size: c.size, Tasks: tasks})
		}
	}
}

func TestPlansOfWrongSize(t *testing.T) {
	sizes := []int64{
		0, 3, 5, 6, 7, 9, 16, 32, 1 << 32, 1 << 62,
		-1, -2, -3, -4, -8, -16,
		math.MaxInt64, math.MaxInt64 - 1, math.MinInt64, math.MinInt64 + 1,
		// one of these by 2 or by 3 wraps around to a small number
		math.MinInt64 + 4, math.MinInt64 / 2, math.MaxInt64/3 + 1,
	}
	for _, size := range sizes {
		for _, tasks := range []int64{1, 2, 8, size, size / 2, 0, -1, math.MaxInt64, math.MinInt64} {
			checkNoPlan(t, impl.Plan{Size: size, Tasks: tasks})
		}
	}
}

func TestZeroPlan(t *testing.T) {
	checkNoPlan(t, impl.Plan{})
}

// TestSlotsArePowersOfTwo holds promise 1 as a law over a whole range, beside
// the numbers written out above.
func TestSlotsArePowersOfTwo(t *testing.T) {
	right := 0
	for size := int64(-20); size <= 70; size++ {
		for tasks := int64(-2); tasks <= 72; tasks++ {
			p := impl.Plan{Size: size, Tasks: tasks}
			if !impl.PlanOk(p) {
				checkNoPlan(t, p)
				continue
			}
			right++
			slots := impl.SlotsOf(p)
			if slots != 2*size || slots&(slots-1) != 0 || slots != 1<<impl.BitsOf(p) {
				t.Errorf("%v has %d slots of %d bits", p, slots, impl.BitsOf(p))
			}
			if impl.MostOf(p)+1 != 3*size {
				t.Errorf("MostOf(%v) is %d", p, impl.MostOf(p))
			}
		}
	}
	if right != 1+2+4+8 {
		t.Errorf("%d plans are right, not 15", right)
	}
}
