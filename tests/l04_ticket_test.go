package tests

import (
	"math"
	"testing"

	"loop.example/g00738/impl"
)

// maxTicket is written out, so that another limit in the program is seen here.
const maxTicket = 1000000

// edgeTickets are all tickets of the first cycles, and those of the last ones.
func edgeTickets(p impl.Plan) []int64 {
	span := 4 * 2 * p.Size
	var list []int64
	for n := int64(0); n < span; n++ {
		list = append(list, n)
	}
	for n := maxTicket - span; n <= maxTicket; n++ {
		list = append(list, n)
	}
	return list
}

func noTickets() []int64 {
	list := []int64{1 << 32, 1 << 62, -1 << 32, -1 << 62, 2 * maxTicket, -maxTicket}
	for n := int64(0); n <= 40; n++ {
		list = append(list, -1-n, maxTicket+1+n, math.MinInt64+n, math.MaxInt64-n)
	}
	return list
}

func checkTicket(t *testing.T, p impl.Plan, ticket, cycle, place int64) {
	t.Helper()
	if got := impl.CycleOf(p, ticket); got != cycle {
		t.Errorf("CycleOf(%v, %d) is %d, not %d", p, ticket, got, cycle)
	}
	if got := impl.PlaceOf(p, ticket); got != place {
		t.Errorf("PlaceOf(%v, %d) is %d, not %d", p, ticket, got, place)
	}
}

// TestWrittenTickets has its numbers worked out by hand, so that it stands
// beside the tests below, which ask other functions of the program.
func TestWrittenTickets(t *testing.T) {
	for _, c := range []struct {
		size, ticket, cycle, place int64
	}{
		{1, 0, 0, 0}, {1, 1, 0, 1}, {1, 2, 1, 0}, {1, 5, 2, 1}, {1, 999999, 499999, 1}, {1, 1000000, 500000, 0},
		{2, 0, 0, 0}, {2, 1, 0, 2}, {2, 2, 0, 1}, {2, 6, 1, 1}, {2, 11, 2, 3},
		{2, 999997, 249999, 2}, {2, 999999, 249999, 3}, {2, 1000000, 250000, 0},
		{4, 0, 0, 0}, {4, 7, 0, 7}, {4, 8, 1, 0}, {4, 13, 1, 3}, {4, 20, 2, 1},
		{4, 999996, 124999, 1}, {4, 999999, 124999, 7}, {4, 1000000, 125000, 0},
		{8, 0, 0, 0}, {8, 1, 0, 4}, {8, 16, 1, 0}, {8, 21, 1, 5}, {8, 36, 2, 1}, {8, 46, 2, 11},
		{8, 999993, 62499, 6}, {8, 999999, 62499, 15}, {8, 1000000, 62500, 0},
	} {
		for tasks := int64(1); tasks <= c.size; tasks++ {
			checkTicket(t, impl.Plan{Size: c.size, Tasks: tasks}, c.ticket, c.cycle, c.place)
		}
	}
}

func TestTicketsGoRound(t *testing.T) {
	for _, p := range rightPlans() {
		slots := 2 * p.Size
		for _, ticket := range edgeTickets(p) {
			checkTicket(t, p, ticket, ticket/slots, impl.SpotOf(p, ticket%slots))
		}
	}
}

// TestTicketsDiffer holds promise 4 by what is told of each ticket alone.
func TestTicketsDiffer(t *testing.T) {
	for _, p := range rightPlans() {
		seen := map[[2]int64]int64{}
		for _, ticket := range edgeTickets(p) {
			known := [2]int64{impl.CycleOf(p, ticket), impl.PlaceOf(p, ticket)}
			if other, twice := seen[known]; twice {
				t.Errorf("%v: the tickets %d and %d both have the cycle and place %v", p, other, ticket, known)
			}
			seen[known] = ticket
		}
	}
}

// TestTicketsAreKnown holds promise 4 for every ticket there is: what can be
// told back from its cycle and its place is no other one's.
func TestTicketsAreKnown(t *testing.T) {
	for _, c := range rightSizes() {
		p := impl.Plan{Size: c.size, Tasks: c.size}
		for ticket := int64(0); ticket <= maxTicket; ticket++ {
			cycle, place := impl.CycleOf(p, ticket), impl.PlaceOf(p, ticket)
			if got := cycle*impl.SlotsOf(p) + impl.Unspot(p, place); got != ticket {
				t.Fatalf("%v: the cycle %d and the place %d of the ticket %d are of %d", p, cycle, place, ticket, got)
			}
		}
	}
}

func TestNoTickets(t *testing.T) {
	if impl.MaxTicket != maxTicket {
		t.Errorf("MaxTicket is %d", impl.MaxTicket)
	}
	for _, p := range rightPlans() {
		for _, ticket := range noTickets() {
			checkTicket(t, p, ticket, -1, -1)
		}
	}
}

func TestTicketsOfWrongPlans(t *testing.T) {
	tickets := append(noTickets(), maxTicket-1, maxTicket)
	for n := int64(0); n <= 48; n++ {
		tickets = append(tickets, n)
	}
	for _, p := range moreWrongPlans() {
		for _, ticket := range tickets {
			checkTicket(t, p, ticket, -1, -1)
		}
	}
}
