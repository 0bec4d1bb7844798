package tests

import (
	"math"
	"testing"

	"loop.example/g00738/impl"
)

// These are written out, so that other limits in the program are seen here.
const (
	maxValue = 999999
	maxWord  = 100000000
	maxNow   = 20000
)

// limit is what one number of a hand may be.
type limit struct {
	name        string
	least, most int64
	set         func(h *impl.Hand, n int64)
}

func handLimits(p impl.Plan) []limit {
	return []limit{
		{"At", 0, 19, func(h *impl.Hand, n int64) { h.At = n }},
		{"Ring", 0, 1, func(h *impl.Hand, n int64) { h.Ring = n }},
		{"Ticket", 0, maxTicket + 1, func(h *impl.Hand, n int64) { h.Ticket = n }},
		{"Word", 0, maxWord, func(h *impl.Hand, n int64) { h.Word = n }},
		{"Tail", 0, maxTicket + 1, func(h *impl.Hand, n int64) { h.Tail = n }},
		{"Head", 0, maxTicket + 1, func(h *impl.Hand, n int64) { h.Head = n }},
		{"Index", -1, p.Size - 1, func(h *impl.Hand, n int64) { h.Index = n }},
		{"Begin", 0, maxNow, func(h *impl.Hand, n int64) { h.Begin = n }},
		{"Reply", 0, 4, func(h *impl.Hand, n int64) { h.Reply = n }},
		{"Out", 0, maxValue, func(h *impl.Hand, n int64) { h.Out = n }},
	}
}

// meets are the limits themselves, what lies beside them and between them.
func (l limit) meets() []int64 {
	list := []int64{l.least, l.most, l.least + (l.most-l.least)/2}
	for _, n := range []int64{l.least + 1, l.most - 1} {
		if l.least <= n && n <= l.most {
			list = append(list, n)
		}
	}
	return list
}

// passes are those one past a limit, and many that are far past one.
func (l limit) passes() []int64 {
	list := []int64{l.least - 1, l.most + 1, l.least - 2, l.most + 2, -maxWord, 1 << 62, math.MaxInt64, math.MinInt64}
	for _, n := range []int64{l.least, l.most} {
		// cut to fewer bits, these would be right
		list = append(list, 1<<32+n, -1<<32+n, math.MinInt64+1+n)
	}
	return list
}

func someCalls() []impl.Call {
	return []impl.Call{
		{Code: impl.OpPut}, {Code: impl.OpPut, Value: 1}, {Code: impl.OpPut, Value: 4711},
		{Code: impl.OpPut, Value: maxValue - 1}, {Code: impl.OpPut, Value: maxValue}, {Code: impl.OpTake},
	}
}

// noCalls are neither right nor zero.
func noCalls() []impl.Call {
	var list []impl.Call
	for _, value := range []int64{-1, -2, -maxValue, maxValue + 1, maxValue + 2, 1 << 32, 1 << 62, math.MaxInt64, math.MinInt64} {
		list = append(list, impl.Call{Code: impl.OpPut, Value: value}, impl.Call{Code: impl.OpTake, Value: value}, impl.Call{Value: value})
	}
	for _, value := range []int64{1, 2, maxValue} {
		list = append(list, impl.Call{Code: impl.OpTake, Value: value}, impl.Call{Value: value})
	}
	for _, code := range []int64{3, -1, 4, -2, 1<<32 + 1, 1<<32 + 2, math.MaxInt64, math.MinInt64, math.MinInt64 + 1} {
		for _, value := range []int64{0, 1, -1, maxValue, math.MaxInt64, math.MinInt64} {
			list = append(list, impl.Call{Code: code, Value: value})
		}
	}
	return list
}

// someHands are right ones at every At, with every other number at each of its
// limits and beside them, where all others are at theirs.
func someHands(p impl.Plan) []impl.Hand {
	var list []impl.Hand
	calls := someCalls()
	for _, base := range baseHands(p) {
		for at := range int64(20) {
			base.At = at
			for _, l := range handLimits(p)[1:] {
				for _, n := range l.meets() {
					h := base
					l.set(&h, n)
					h.Call = calls[len(list)%len(calls)]
					list = append(list, h)
				}
			}
		}
	}
	return list
}

// baseHands have all their numbers at the least limit, at the most, or between.
func baseHands(p impl.Plan) []impl.Hand {
	var low, mid, high impl.Hand
	for _, l := range handLimits(p) {
		l.set(&low, l.least)
		l.set(&mid, l.least+(l.most-l.least)/2)
		l.set(&high, l.most)
	}
	low.Call, mid.Call, high.Call = impl.Call{Code: impl.OpPut}, impl.Call{Code: impl.OpPut, Value: maxValue}, impl.Call{Code: impl.OpTake}
	return []impl.Hand{low, mid, high}
}

// badHands have each one fault.
func badHands(p impl.Plan) []impl.Hand {
	var list []impl.Hand
	for _, base := range baseHands(p) {
		for _, l := range handLimits(p) {
			for _, n := range l.passes() {
				h := base
				l.set(&h, n)
				list = append(list, h)
			}
		}
		for _, c := range noCalls() {
			h := base
			h.Call = c
			list = append(list, h)
		}
	}
	return list
}

func checkHand(t *testing.T, p impl.Plan, h impl.Hand, want bool) {
	t.Helper()
	if got := impl.HandOk(p, h); got != want {
		t.Errorf("HandOk(%v, %+v) is %v, not %v", p, h, got, want)
	}
}

func checkCall(t *testing.T, c impl.Call, want bool) {
	t.Helper()
	if got := impl.CallOk(c); got != want {
		t.Errorf("CallOk(%+v) is %v, not %v", c, got, want)
	}
}

func TestHandConstants(t *testing.T) {
	for i, c := range [][2]int64{
		{impl.MaxValue, maxValue}, {impl.MaxWord, maxWord}, {impl.MaxNow, maxNow},
		{impl.OpPut, 1}, {impl.OpTake, 2},
		{impl.AtRest, 0}, {impl.AtTail, 1}, {impl.AtLoad, 2}, {impl.AtHead, 3}, {impl.AtSwap, 4}, {impl.AtLook, 5}, {impl.AtSet, 6},
		{impl.AtLeft, 7}, {impl.AtNext, 8}, {impl.AtSee, 9}, {impl.AtOr, 10}, {impl.AtMark, 11}, {impl.AtEnd, 12}, {impl.AtLess, 13},
		{impl.AtCatch, 14}, {impl.AtAgain, 15}, {impl.AtAfter, 16}, {impl.AtLast, 17}, {impl.AtLay, 18}, {impl.AtRead, 19},
		{impl.AtDone, 20}, {impl.AtFound, 21},
		{impl.RpOk, 1}, {impl.RpFull, 2}, {impl.RpValue, 3}, {impl.RpEmpty, 4},
	} {
		if c[0] != c[1] {
			t.Errorf("constant %d is %d, not %d", i, c[0], c[1])
		}
	}
}

func TestCalls(t *testing.T) {
	for value := int64(0); value <= maxValue; value++ {
		checkCall(t, impl.Call{Code: 1, Value: value}, true)
	}
	checkCall(t, impl.Call{Code: 2}, true)
}

func TestNoCalls(t *testing.T) {
	checkCall(t, impl.Call{}, false)
	for _, c := range noCalls() {
		checkCall(t, c, false)
	}
}

// restingNumbers are those that Resting is given, right ones and not.
func restingNumbers() []int64 {
	return []int64{
		0, 1, 2, 3, 4, 5, 6, -1, -2, 7, maxValue - 1, maxValue, maxValue + 1,
		1 << 32, 1 << 62, math.MaxInt64, math.MaxInt64 - 1, math.MinInt64, math.MinInt64 + 1,
	}
}

// TestRestingHasNothingInHand holds promise 8.
func TestRestingHasNothingInHand(t *testing.T) {
	for _, reply := range restingNumbers() {
		for _, out := range restingNumbers() {
			h := impl.Resting(reply, out)
			if h.Index != -1 || h.Reply != reply || h.Out != out {
				t.Errorf("Resting(%d, %d) is %+v", reply, out, h)
			}
			h.Index, h.Reply, h.Out = 0, 0, 0
			if h != (impl.Hand{}) {
				t.Errorf("Resting(%d, %d) has %+v in hand", reply, out, h)
			}
		}
	}
}

func TestRestingIsRight(t *testing.T) {
	for _, p := range rightPlans() {
		for _, reply := range restingNumbers() {
			for _, out := range restingNumbers() {
				want := 0 <= reply && reply <= 4 && 0 <= out && out <= maxValue
				checkHand(t, p, impl.Resting(reply, out), want)
			}
		}
	}
}

func TestWrittenHands(t *testing.T) {
	p := impl.Plan{Size: 2, Tasks: 1}
	put, take := impl.Call{Code: 1, Value: 999999}, impl.Call{Code: 2}
	for _, h := range []impl.Hand{
		{},
		{Index: -1},
		{Call: put}, {Call: take},
		{At: 1, Call: put, Ring: 1, Index: 1},
		{At: 19, Call: take, Ticket: 1000001, Word: 100000000, Tail: 1000001, Head: 1000001, Index: -1, Begin: 20000},
		{Ring: 1, Ticket: 1000001, Word: 100000000, Tail: 1000001, Head: 1000001, Index: 1, Begin: 20000, Reply: 4, Out: 999999},
	} {
		checkHand(t, p, h, true)
	}
	for _, h := range []impl.Hand{
		{At: 1}, {At: 19, Index: -1}, {At: 20, Call: put}, {At: 21, Call: take}, {At: -1, Call: put}, {At: -1},
		{Call: impl.Call{Value: 1}}, {Call: impl.Call{Code: 1, Value: 1000000}}, {Call: impl.Call{Code: 2, Value: 1}},
		{Ring: 2}, {Ring: -1}, {Ticket: 1000002}, {Ticket: -1}, {Word: 100000001}, {Word: -1}, {Tail: 1000002}, {Tail: -1},
		{Head: 1000002}, {Head: -1}, {Index: 2}, {Index: -2}, {Begin: 20001}, {Begin: -1}, {Reply: 5}, {Reply: -1},
		{Out: 1000000}, {Out: -1},
	} {
		checkHand(t, p, h, false)
	}
}

func TestSomeHands(t *testing.T) {
	for _, p := range rightPlans() {
		for _, h := range someHands(p) {
			checkHand(t, p, h, true)
		}
	}
}

func TestBadHands(t *testing.T) {
	for _, p := range rightPlans() {
		for _, h := range baseHands(p) {
			checkHand(t, p, h, true)
		}
		for _, h := range badHands(p) {
			checkHand(t, p, h, false)
		}
	}
}

// TestHandsWithTwoFaults has faults of which no one makes up for the other one.
func TestHandsWithTwoFaults(t *testing.T) {
	for _, p := range rightPlans() {
		limits := handLimits(p)
		for _, base := range baseHands(p) {
			for i, a := range limits {
				for _, b := range limits[:i] {
					h := base
					a.set(&h, a.most+1)
					b.set(&h, b.least-1)
					checkHand(t, p, h, false)
				}
			}
		}
	}
}

// TestHandsOfAnotherSize has the greatest Index of a plan in a smaller one.
func TestHandsOfAnotherSize(t *testing.T) {
	for _, p := range rightPlans() {
		for index := int64(-3); index <= 17; index++ {
			want := -1 <= index && index < p.Size
			checkHand(t, p, impl.Hand{Index: index}, want)
			checkHand(t, p, impl.Hand{At: impl.AtLay, Call: impl.Call{Code: impl.OpPut}, Index: index}, want)
		}
	}
}

// TestCallsOfHands asks of every kind of Call at every At.
func TestCallsOfHands(t *testing.T) {
	for _, p := range rightPlans() {
		for at := int64(0); at <= 19; at++ {
			for _, c := range someCalls() {
				checkHand(t, p, impl.Hand{At: at, Call: c}, true)
				checkHand(t, p, impl.Hand{At: at, Call: c, Index: -1}, true)
			}
			for _, c := range noCalls() {
				checkHand(t, p, impl.Hand{At: at, Call: c}, false)
				checkHand(t, p, impl.Hand{At: at, Call: c, Index: -1}, false)
			}
			checkHand(t, p, impl.Hand{At: at}, at == 0)
			checkHand(t, p, impl.Hand{At: at, Index: -1}, at == 0)
		}
	}
}

// TestRestingHandsHaveAnything asks of hands at rest, with and without a Call,
// with each other number as it may be and as it may not.
func TestRestingHandsHaveAnything(t *testing.T) {
	for _, p := range rightPlans() {
		for _, c := range append(someCalls(), impl.Call{}) {
			for _, l := range handLimits(p)[1:] {
				for _, n := range l.meets() {
					h := impl.Hand{Call: c}
					l.set(&h, n)
					checkHand(t, p, h, true)
				}
				for _, n := range l.passes() {
					h := impl.Hand{Call: c}
					l.set(&h, n)
					checkHand(t, p, h, false)
				}
			}
		}
	}
}

func TestHandsOfWrongPlans(t *testing.T) {
	var hands []impl.Hand
	for _, size := range []int64{1, 4, 8} {
		p := impl.Plan{Size: size, Tasks: 1}
		hands = append(hands, baseHands(p)...)
		hands = append(hands, badHands(p)...)
	}
	hands = append(hands, impl.Hand{}, impl.Resting(0, 0), impl.Resting(impl.RpValue, maxValue))
	for _, p := range moreWrongPlans() {
		for _, h := range hands {
			checkHand(t, p, h, false)
		}
	}
}
