package tests

import (
	"math"
	"testing"

	"loop.example/g00738/impl"
)

func checkMay(t *testing.T, p impl.Plan, e impl.Entry, ticket, take, have int64) {
	t.Helper()
	if got := impl.MayTake(p, e, ticket); got != take {
		t.Errorf("MayTake(%v, %v, %d) is %d, not %d", p, e, ticket, got, take)
	}
	if got := impl.MayHave(p, e, ticket); got != have {
		t.Errorf("MayHave(%v, %v, %d) is %d, not %d", p, e, ticket, got, have)
	}
}

func checkTaken(t *testing.T, p impl.Plan, ticket, index int64, want impl.Entry) {
	t.Helper()
	if got := impl.TakenBy(p, ticket, index); got != want {
		t.Errorf("TakenBy(%v, %d, %d) is %v, not %v", p, ticket, index, got, want)
	}
}

func checkLeft(t *testing.T, p impl.Plan, e impl.Entry, ticket int64, want impl.Entry) {
	t.Helper()
	if got := impl.LeftBy(p, e, ticket); got != want {
		t.Errorf("LeftBy(%v, %v, %d) is %v, not %v", p, e, ticket, got, want)
	}
}

func checkEmptied(t *testing.T, p impl.Plan, e, want impl.Entry) {
	t.Helper()
	if got := impl.Emptied(p, e); got != want {
		t.Errorf("Emptied(%v, %v) is %v, not %v", p, e, got, want)
	}
}

// checkNothingMay asks all that a ticket and an entry are given to, where one of
// them, or the plan, is not right.
func checkNothingMay(t *testing.T, p impl.Plan, e impl.Entry, ticket int64) {
	t.Helper()
	checkMay(t, p, e, ticket, -1, -1)
	checkLeft(t, p, e, ticket, impl.Entry{})
}

// laterEarlier tells what is answered of an entry by the cycle it has and that
// of the ticket.
func laterEarlier(own, asked, later, same, earlier int64) int64 {
	switch {
	case asked > own:
		return later
	case asked < own:
		return earlier
	}
	return same
}

// someEntries are right ones of cycles at the edges and between them, with each
// Index, Safe and not.
func someEntries(p impl.Plan) []impl.Entry {
	slots := 2 * p.Size
	last := maxTicket / slots
	var list []impl.Entry
	for _, cycle := range []int64{0, 1, 2, 3, 4, last - 1, last, last + 1, maxCycle - 1, maxCycle} {
		for index := int64(0); index < slots; index++ {
			list = append(list, impl.Entry{Cycle: cycle, Index: index}, impl.Entry{Cycle: cycle, Safe: true, Index: index})
		}
	}
	return list
}

func noEntries(p impl.Plan) []impl.Entry {
	none := 2*p.Size - 1
	var list []impl.Entry
	for _, safe := range []bool{false, true} {
		for _, cycle := range []int64{-1, maxCycle + 1, math.MaxInt64, math.MinInt64, 1 << 62} {
			list = append(list, impl.Entry{Cycle: cycle, Safe: safe}, impl.Entry{Cycle: cycle, Safe: safe, Index: none})
		}
		for _, index := range []int64{-1, none + 1, none + 2, math.MaxInt64, math.MinInt64, 1 << 62} {
			list = append(list, impl.Entry{Safe: safe, Index: index}, impl.Entry{Cycle: maxCycle, Safe: safe, Index: index})
			list = append(list, impl.Entry{Cycle: -1, Safe: safe, Index: index}, impl.Entry{Cycle: maxCycle + 1, Safe: safe, Index: index})
		}
	}
	return list
}

// TestWrittenMay has its numbers worked out by hand, so that it stands beside
// the tests below, which reckon.
func TestWrittenMay(t *testing.T) {
	for _, c := range []struct {
		size               int64
		e                  impl.Entry
		ticket, take, have int64
	}{
		// Size 1: two tickets a cycle, Index 1 is none
		{1, impl.Entry{Index: 1}, 1, 0, 1}, {1, impl.Entry{Index: 1}, 2, 2, 2}, {1, impl.Entry{Safe: true, Index: 1}, 2, 1, 2},
		{1, impl.Entry{Safe: true}, 2, 0, 2}, {1, impl.Entry{Cycle: 1}, 1, 0, 0},
		{1, impl.Entry{Cycle: 500000, Safe: true, Index: 1}, 1000000, 0, 1},
		{1, impl.Entry{Cycle: 499999, Safe: true, Index: 1}, 1000000, 1, 2},
		// Size 2: four tickets a cycle, Index 3 is none
		{2, impl.Entry{Cycle: 1, Safe: true, Index: 3}, 7, 0, 1}, {2, impl.Entry{Cycle: 1, Safe: true, Index: 3}, 8, 1, 2},
		{2, impl.Entry{Cycle: 1, Index: 3}, 8, 2, 2}, {2, impl.Entry{Cycle: 1, Index: 2}, 8, 0, 2}, {2, impl.Entry{Cycle: 1, Index: 3}, 3, 0, 0},
		// Size 4: eight tickets a cycle, Index 7 is none
		{4, impl.Entry{Cycle: 1, Safe: true, Index: 2}, 13, 0, 1}, {4, impl.Entry{Cycle: 1, Safe: true, Index: 2}, 21, 0, 2},
		{4, impl.Entry{Cycle: 1, Safe: true, Index: 7}, 21, 1, 2}, {4, impl.Entry{Cycle: 1, Index: 7}, 21, 2, 2},
		{4, impl.Entry{Cycle: 1, Index: 7}, 13, 0, 1}, {4, impl.Entry{Cycle: 3, Safe: true, Index: 7}, 21, 0, 0},
		{4, impl.Entry{Cycle: 1000000, Safe: true, Index: 7}, 1000000, 0, 0},
		// Size 8: sixteen tickets a cycle, Index 15 is none
		{8, impl.Entry{Cycle: 2, Safe: true, Index: 15}, 47, 0, 1}, {8, impl.Entry{Cycle: 2, Safe: true, Index: 15}, 48, 1, 2},
		{8, impl.Entry{Cycle: 2, Index: 15}, 48, 2, 2}, {8, impl.Entry{Cycle: 2, Safe: true, Index: 7}, 48, 0, 2},
		{8, impl.Entry{Cycle: 62499, Index: 15}, 1000000, 2, 2}, {8, impl.Entry{Cycle: 62500, Index: 15}, 999999, 0, 0},
	} {
		for tasks := int64(1); tasks <= c.size; tasks++ {
			checkMay(t, impl.Plan{Size: c.size, Tasks: tasks}, c.e, c.ticket, c.take, c.have)
		}
	}
}

func TestWrittenBecome(t *testing.T) {
	for tasks := int64(1); tasks <= 4; tasks++ {
		p := impl.Plan{Size: 4, Tasks: tasks}
		checkTaken(t, p, 0, 0, impl.Entry{Safe: true})
		checkTaken(t, p, 13, 2, impl.Entry{Cycle: 1, Safe: true, Index: 2})
		checkTaken(t, p, 1000000, 7, impl.Entry{Cycle: 125000, Safe: true, Index: 7})
		checkLeft(t, p, impl.Entry{Cycle: 1, Safe: true, Index: 7}, 21, impl.Entry{Cycle: 2, Safe: true, Index: 7})
		checkLeft(t, p, impl.Entry{Cycle: 1, Index: 7}, 21, impl.Entry{Cycle: 2, Index: 7})
		checkLeft(t, p, impl.Entry{Cycle: 1, Safe: true, Index: 2}, 21, impl.Entry{Cycle: 1, Index: 2})
		checkLeft(t, p, impl.Entry{Cycle: 1, Index: 2}, 21, impl.Entry{Cycle: 1, Index: 2})
		// neither asks whether the ticket is of a later cycle
		checkLeft(t, p, impl.Entry{Cycle: 3, Safe: true, Index: 7}, 13, impl.Entry{Cycle: 1, Safe: true, Index: 7})
		checkLeft(t, p, impl.Entry{Cycle: 3, Safe: true, Index: 0}, 13, impl.Entry{Cycle: 3})
		checkEmptied(t, p, impl.Entry{Cycle: 1, Safe: true, Index: 2}, impl.Entry{Cycle: 1, Safe: true, Index: 7})
		checkEmptied(t, p, impl.Entry{Cycle: 1000000}, impl.Entry{Cycle: 1000000, Index: 7})
		checkEmptied(t, p, impl.Entry{Cycle: 5, Index: 7}, impl.Entry{Cycle: 5, Index: 7})
	}
}

// TestTakenMayBeHad holds promise 5: where MayHave answers 1 to another ticket
// than that of which it was taken, that one goes to another place.
func TestTakenMayBeHad(t *testing.T) {
	for _, c := range rightSizes() {
		p := impl.Plan{Size: c.size, Tasks: c.size}
		tickets := edgeTickets(p)
		for _, ticket := range tickets {
			own := ticket / c.slots
			for index := int64(0); index < c.slots; index++ {
				e := impl.TakenBy(p, ticket, index)
				if e != (impl.Entry{Cycle: own, Safe: true, Index: index}) || !impl.EntryOk(p, e) {
					t.Fatalf("TakenBy(%v, %d, %d) is %v", p, ticket, index, e)
				}
				for _, other := range tickets {
					have := laterEarlier(own, other/c.slots, 2, 1, 0)
					if got := impl.MayHave(p, e, other); got != have {
						t.Fatalf("MayHave(%v, %v, %d) is %d, not %d", p, e, other, got, have)
					}
					if have == 1 && other != ticket && impl.PlaceOf(p, other) == impl.PlaceOf(p, ticket) {
						t.Fatalf("%v: what %d has taken may be had by %d", p, ticket, other)
					}
				}
			}
		}
	}
}

// TestTakenIsNotTakenAgain goes on from what TakenBy answers: as long as a
// number lies there, no ticket may put another one over it.
func TestTakenIsNotTakenAgain(t *testing.T) {
	for _, c := range rightSizes() {
		p := impl.Plan{Size: c.size, Tasks: 1}
		tickets := edgeTickets(p)
		for _, ticket := range tickets {
			own := ticket / c.slots
			for index := int64(0); index < c.slots; index++ {
				e := impl.TakenBy(p, ticket, index)
				empty := impl.Emptied(p, e)
				if empty != (impl.Entry{Cycle: own, Safe: true, Index: c.slots - 1}) {
					t.Fatalf("Emptied(%v, %v) is %v", p, e, empty)
				}
				for _, other := range tickets {
					free := laterEarlier(own, other/c.slots, 1, 0, 0)
					if got := impl.MayTake(p, empty, other); got != free {
						t.Fatalf("MayTake(%v, %v, %d) is %d, not %d", p, empty, other, got, free)
					}
					if got := impl.MayTake(p, e, other); got != 0 && index < c.slots-1 {
						t.Fatalf("MayTake(%v, %v, %d) is %d, not 0", p, e, other, got)
					}
				}
			}
		}
	}
}

func TestMayOfSomeEntries(t *testing.T) {
	for _, p := range rightPlans() {
		slots := 2 * p.Size
		for _, e := range someEntries(p) {
			for _, ticket := range edgeTickets(p) {
				free := int64(0)
				if e.Index == slots-1 {
					free = 2
				}
				if free == 2 && e.Safe {
					free = 1
				}
				cycle := ticket / slots
				checkMay(t, p, e, ticket, laterEarlier(e.Cycle, cycle, free, 0, 0), laterEarlier(e.Cycle, cycle, 2, 1, 0))
			}
		}
	}
}

func TestBecomeOfSomeEntries(t *testing.T) {
	for _, p := range rightPlans() {
		slots := 2 * p.Size
		for _, e := range someEntries(p) {
			checkEmptied(t, p, e, impl.Entry{Cycle: e.Cycle, Safe: e.Safe, Index: slots - 1})
			for _, ticket := range edgeTickets(p) {
				want := impl.Entry{Cycle: e.Cycle, Index: e.Index}
				if e.Index == slots-1 {
					want = impl.Entry{Cycle: ticket / slots, Safe: e.Safe, Index: slots - 1}
				}
				checkLeft(t, p, e, ticket, want)
			}
		}
	}
}

// TestLeftIsLeft holds what LeftBy is for: that ticket may put nothing there any
// more, and a later one, once what lies there is gone, only if the head is not
// past it.
func TestLeftIsLeft(t *testing.T) {
	for _, p := range rightPlans() {
		slots := 2 * p.Size
		for _, e := range someEntries(p) {
			for _, ticket := range edgeTickets(p) {
				if impl.MayHave(p, e, ticket) != 2 {
					continue
				}
				left := impl.LeftBy(p, e, ticket)
				if got := impl.MayTake(p, left, ticket); got != 0 {
					t.Errorf("MayTake(%v, %v, %d) is %d behind LeftBy it", p, left, ticket, got)
				}
				later := ticket + slots
				if later > maxTicket || e.Index == slots-1 {
					continue
				}
				if got := impl.MayTake(p, impl.Emptied(p, left), later); got != 2 {
					t.Errorf("MayTake(%v, Emptied %v, %d) is %d, not 2", p, left, later, got)
				}
			}
		}
	}
}

func TestEntriesOfNoTickets(t *testing.T) {
	for _, p := range rightPlans() {
		none := 2*p.Size - 1
		for _, ticket := range noTickets() {
			for _, safe := range []bool{false, true} {
				for _, cycle := range []int64{0, 1, maxCycle} {
					checkNothingMay(t, p, impl.Entry{Cycle: cycle, Safe: safe}, ticket)
					checkNothingMay(t, p, impl.Entry{Cycle: cycle, Safe: safe, Index: none}, ticket)
				}
			}
			for index := int64(-1); index <= none+1; index++ {
				checkTaken(t, p, ticket, index, impl.Entry{})
			}
		}
	}
}

func TestNoEntriesMay(t *testing.T) {
	for _, p := range rightPlans() {
		tickets := append(edgeTickets(p), -1, maxTicket+1, math.MaxInt64, math.MinInt64)
		for _, e := range noEntries(p) {
			checkEmptied(t, p, e, impl.Entry{})
			for _, ticket := range tickets {
				checkNothingMay(t, p, e, ticket)
			}
		}
	}
}

func TestTakenByNoIndex(t *testing.T) {
	for _, p := range rightPlans() {
		slots := 2 * p.Size
		for _, ticket := range edgeTickets(p) {
			for n := int64(0); n <= slots; n++ {
				for _, index := range []int64{-1 - n, slots + n, math.MaxInt64 - n, math.MinInt64 + n, 1<<32 + n, 1<<62 + n} {
					checkTaken(t, p, ticket, index, impl.Entry{})
				}
			}
		}
	}
}

func TestEntriesOfWrongPlans(t *testing.T) {
	numbers := []int64{0, 1, 2, 3, 7, 8, 13, 15, 16, 31, 32, -1, maxTicket, maxTicket + 1, math.MaxInt64, math.MinInt64}
	for _, p := range moreWrongPlans() {
		for _, cycle := range []int64{0, 1, maxCycle, -1, maxCycle + 1, math.MaxInt64, math.MinInt64} {
			for _, index := range numbers {
				for _, safe := range []bool{false, true} {
					e := impl.Entry{Cycle: cycle, Safe: safe, Index: index}
					checkEmptied(t, p, e, impl.Entry{})
					for _, ticket := range numbers {
						checkNothingMay(t, p, e, ticket)
					}
				}
			}
		}
		for _, ticket := range numbers {
			for _, index := range numbers {
				checkTaken(t, p, ticket, index, impl.Entry{})
			}
		}
	}
}
