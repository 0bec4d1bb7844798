package tests

import (
	"math"
	"math/rand/v2"
	"slices"
	"testing"

	"loop.example/g00738/impl"
)

// stood is an Index in a ring and the number of the ticket that it came with.
type stood struct {
	ticket, index int64
}

type itemsCase struct {
	size  int64
	words []int64
	items []stood
}

// writtenItems has its numbers worked out by hand, so that it stands beside the
// tests below, which reckon. Some of the tickets are past the last one.
func writtenItems() []itemsCase {
	return []itemsCase{
		{1, []int64{10, 4000000}, []stood{{4, 0}, {2000001, 0}}},
		{1, []int64{1, 6}, []stood{{3, 0}}},
		// by their places, the numbers of this one would stand as 2, 0, 1
		{2, []int64{14, 8, 13, 5}, []stood{{3, 1}, {4, 2}, {5, 1}, {6, 0}}},
		{
			4,
			[]int64{62, 5, 8, 16000011, 47, 16000003, 16000012, 17},
			[]stood{{1, 0}, {4, 5}, {15, 1}, {24, 6}, {8000003, 4}, {8000005, 3}, {8000006, 3}},
		},
		{
			8,
			[]int64{2000025, 175, 55, 1999975, 2000018, 46, 31, 31, 31, 31, 31, 31, 31, 31, 31, 31},
			[]stood{{21, 14}, {24, 7}, {999996, 7}, {1000000, 9}, {1000001, 2}},
		},
	}
}

// jsOf are the numbers of which the places are the spots, as they are written
// out for chapter 3.
func jsOf(p impl.Plan) []int64 {
	for _, c := range writtenSpots() {
		if c.size == p.Size {
			return c.js
		}
	}
	return nil
}

// ringOf makes the words without asking the program, and all else as edges.
func ringOf(p impl.Plan, entries []impl.Entry) impl.Ring {
	slots := 2 * p.Size
	r := impl.Ring{Head: maxTicket, Tail: 0, Left: -maxLook}
	for _, e := range entries {
		word := e.Cycle*2*slots + e.Index
		if e.Safe {
			word += slots
		}
		r.Words = append(r.Words, word)
	}
	return r
}

// itemsIn are those that stand in entries, one for each place.
func itemsIn(p impl.Plan, entries []impl.Entry) []stood {
	slots, js := 2*p.Size, jsOf(p)
	var items []stood
	for place, e := range entries {
		if e.Index != slots-1 {
			items = append(items, stood{ticket: e.Cycle*slots + js[place], index: e.Index})
		}
	}
	slices.SortFunc(items, func(a, b stood) int { return int(a.ticket - b.ticket) })
	return items
}

func checkItemsOf(t *testing.T, p impl.Plan, r impl.Ring, want []int64) {
	t.Helper()
	checkLeaves(t, "ItemsOf", func() {
		if got := impl.ItemsOf(p, r); !slices.Equal(got, want) {
			t.Errorf("ItemsOf(%v, %v) is %v, not %v", p, r, got, want)
		}
	}, r.Words)
}

func checkItemAt(t *testing.T, p impl.Plan, r impl.Ring, ticket, want int64) {
	t.Helper()
	checkLeaves(t, "ItemAt", func() {
		if got := impl.ItemAt(p, r, ticket); got != want {
			t.Errorf("ItemAt(%v, %v, %d) is %d, not %d", p, r, ticket, got, want)
		}
	}, r.Words)
}

// askedTickets are those of the items and of the cycles beside theirs, of all
// places of the first and the last cycles, and many that are none.
func askedTickets(p impl.Plan, items []stood) []int64 {
	slots := 2 * p.Size
	list := append(edgeTickets(p), noTickets()...)
	for _, it := range items {
		for n := it.ticket - 2*slots; n <= it.ticket+2*slots; n++ {
			list = append(list, n)
		}
	}
	return list
}

// checkItems asks of a right ring all that can be told of what is in it.
func checkItems(t *testing.T, p impl.Plan, r impl.Ring, items []stood) {
	t.Helper()
	var all []int64
	at := map[int64]int64{}
	for _, it := range items {
		all = append(all, it.index)
		if it.ticket <= maxTicket {
			at[it.ticket] = it.index
		}
	}
	checkItemsOf(t, p, r, all)
	for _, ticket := range askedTickets(p, items) {
		want, is := at[ticket]
		if !is {
			want = -1
		}
		checkItemAt(t, p, r, ticket, want)
	}
}

func checkNoItems(t *testing.T, p impl.Plan, r impl.Ring, tickets []int64) {
	t.Helper()
	checkItemsOf(t, p, r, nil)
	for _, ticket := range tickets {
		checkItemAt(t, p, r, ticket, -1)
	}
}

func TestWrittenItems(t *testing.T) {
	for _, c := range writtenItems() {
		for tasks := int64(1); tasks <= c.size; tasks++ {
			p := impl.Plan{Size: c.size, Tasks: tasks}
			checkItems(t, p, impl.Ring{Words: c.words}, c.items)
			checkItems(t, p, impl.Ring{Words: c.words, Head: maxTicket, Tail: maxTicket, Left: 3*c.size - 1}, c.items)
		}
	}
}

// TestWrittenItemsAtAllTickets asks for every ticket there is.
func TestWrittenItemsAtAllTickets(t *testing.T) {
	for _, c := range writtenItems() {
		p, r := impl.Plan{Size: c.size, Tasks: c.size}, impl.Ring{Words: c.words}
		var got, want []stood
		for ticket := int64(0); ticket <= maxTicket; ticket++ {
			if index := impl.ItemAt(p, r, ticket); index != -1 {
				got = append(got, stood{ticket, index})
			}
		}
		for _, it := range c.items {
			if it.ticket <= maxTicket {
				want = append(want, it)
			}
		}
		if !slices.Equal(got, want) {
			t.Errorf("ItemAt(%v, %v) at all tickets tells %v, not %v", p, r, got, want)
		}
	}
}

func TestItemsOfNewRings(t *testing.T) {
	for _, p := range rightPlans() {
		r := impl.NewRing(p)
		if items := impl.ItemsOf(p, r); len(items) != 0 {
			t.Errorf("ItemsOf(%v, NewRing) is %v", p, items)
		}
		checkItems(t, p, r, nil)
	}
}

func TestItemsOfFullRings(t *testing.T) {
	for _, p := range rightPlans() {
		var items []stood
		for number := range p.Size {
			items = append(items, stood{ticket: 2*p.Size + number, index: number})
		}
		checkItems(t, p, impl.FullRing(p), items)
	}
}

// TestItemsOfOneEntry has one entry at each place in turn, of cycles and with
// Indexes at the edges and between them; the other ones are free, of many cycles.
func TestItemsOfOneEntry(t *testing.T) {
	for _, p := range rightPlans() {
		slots := 2 * p.Size
		for n, e := range someEntries(p) {
			entries := make([]impl.Entry, slots)
			for place := range entries {
				cycle := []int64{0, 1, e.Cycle, maxCycle}[(n+place)%4]
				entries[place] = impl.Entry{Cycle: cycle, Safe: (n+place)%3 == 0, Index: slots - 1}
			}
			place := int64(n) % slots
			entries[place] = e
			r := ringOf(p, entries)
			checkItems(t, p, r, itemsIn(p, entries))
		}
	}
}

// TestItemsAreInOrder holds promise 7 for rings of all kinds of entries.
func TestItemsAreInOrder(t *testing.T) {
	for _, p := range rightPlans() {
		chance, some := rand.New(rand.NewPCG(7, uint64(p.Size))), someEntries(p)
		for n := range 60 {
			entries := make([]impl.Entry, 2*p.Size)
			for place := range entries {
				e := some[chance.IntN(len(some))]
				if n%2 == 0 {
					e.Index = chance.Int64N(2) // the same one many times
				}
				if n%3 == 0 {
					e.Cycle = 2 + chance.Int64N(2) // the order is that of the places' numbers
				}
				entries[place] = e
			}
			checkItems(t, p, ringOf(p, entries), itemsIn(p, entries))
		}
	}
}

// TestItemsOfOneCycle has the numbers of the places themselves in them: that of
// none is the last one's, and is left out.
func TestItemsOfOneCycle(t *testing.T) {
	for _, p := range rightPlans() {
		slots := 2 * p.Size
		for _, cycle := range []int64{0, 1, maxTicket / slots, maxCycle} {
			entries, items := make([]impl.Entry, slots), []stood{}
			for place, j := range jsOf(p) {
				entries[place] = impl.Entry{Cycle: cycle, Safe: j%2 == 0, Index: j}
			}
			for j := range slots - 1 {
				items = append(items, stood{ticket: cycle*slots + j, index: j})
			}
			checkItems(t, p, ringOf(p, entries), items)
		}
	}
}

// TestItemsOfLaterCyclesAtLowerPlaces has the least ticket at the greatest j.
func TestItemsOfLaterCyclesAtLowerPlaces(t *testing.T) {
	for _, p := range rightPlans() {
		slots := 2 * p.Size
		entries, items := make([]impl.Entry, slots), []stood{}
		for place, j := range jsOf(p) {
			entries[place] = impl.Entry{Cycle: slots - j, Safe: j%3 == 0, Index: j % (slots - 1)}
		}
		for j := slots - 1; j >= 0; j-- {
			items = append(items, stood{ticket: (slots-j)*slots + j, index: j % (slots - 1)})
		}
		checkItems(t, p, ringOf(p, entries), items)
	}
}

// TestItemsShareNothing writes all over one answer, to the end of the room
// behind it, and looks at the others and at the ring.
func TestItemsShareNothing(t *testing.T) {
	for _, c := range writtenItems() {
		p, r := impl.Plan{Size: c.size, Tasks: 1}, impl.Ring{Words: slices.Clone(c.words)}
		other, list := impl.ItemsOf(p, r), impl.ItemsOf(p, r)
		want := slices.Clone(other)
		room := list[:cap(list)]
		for i := range room {
			room[i] = -5
		}
		if !slices.Equal(other, want) || !slices.Equal(r.Words, c.words) {
			t.Errorf("%v: what is written into ItemsOf %v is in %v or %v", p, c.words, other, r.Words)
		}
		checkItemsOf(t, p, r, want)
	}
}

func TestItemsLeaveTheRoomBehind(t *testing.T) {
	for _, c := range writtenItems() {
		p := impl.Plan{Size: c.size, Tasks: 1}
		for behind := range 4 {
			room := slices.Concat(c.words, []int64{-7, 5, math.MaxInt64, -9}[:behind])
			r := impl.Ring{Words: room[:len(c.words)]}
			checkItems(t, p, r, c.items)
			r.Left = math.MaxInt64
			checkNoItems(t, p, r, edgeTickets(p))
		}
	}
}

func TestItemsOfBadRings(t *testing.T) {
	for _, p := range rightPlans() {
		slots := 2 * p.Size
		tickets := []int64{maxTicket, -1, maxTicket + 1, math.MaxInt64, math.MinInt64}
		for ticket := range 3 * slots {
			tickets = append(tickets, ticket)
		}
		for _, r := range append(badRings(p), impl.Ring{}) {
			checkNoItems(t, p, r, tickets)
		}
	}
}

func TestItemsOfWrongPlans(t *testing.T) {
	tickets := []int64{maxTicket, -1, maxTicket + 1, math.MaxInt64, math.MinInt64}
	for ticket := range int64(40) {
		tickets = append(tickets, ticket)
	}
	rings := []impl.Ring{{}, {Words: make([]int64, 3)}, {Words: []int64{math.MinInt64}, Left: math.MinInt64}}
	for _, c := range writtenRings() {
		rings = append(rings, c.new, c.full)
	}
	for _, c := range writtenItems() {
		rings = append(rings, impl.Ring{Words: c.words})
	}
	for _, p := range moreWrongPlans() {
		for _, r := range rings {
			checkNoItems(t, p, r, tickets)
		}
	}
}

// TestItemsOfAnotherSize has rings that are right, but of another plan.
func TestItemsOfAnotherSize(t *testing.T) {
	for _, p := range rightPlans() {
		for _, c := range writtenItems() {
			if c.size != p.Size {
				checkNoItems(t, p, impl.Ring{Words: c.words}, edgeTickets(p))
			}
		}
	}
}

func checkPerm(t *testing.T, p impl.Plan, a, b []int64, want bool) {
	t.Helper()
	checkLeaves(t, "PermOk", func() {
		if got := impl.PermOk(p, a, b); got != want {
			t.Errorf("PermOk(%v, %v, %v) is %v, not %v", p, a, b, got, want)
		}
	}, a, b)
}

// checkParted parts the numbers between both lists at each place in turn. The
// first list has the numbers of the second one in the room behind it.
func checkParted(t *testing.T, p impl.Plan, all []int64, want bool) {
	t.Helper()
	for i := range len(all) + 1 {
		checkPerm(t, p, all[:i], all[i:], want)
	}
}

// upTo are 0, 1, 2 and so on, n of them.
func upTo(n int64) []int64 {
	list := []int64{}
	for i := range n {
		list = append(list, i)
	}
	return list
}

// eachOrder gives all orders of the numbers behind the first n, one by one, in
// the same list.
func eachOrder(all []int64, n int, give func()) {
	if n == len(all) {
		give()
	}
	for i := n; i < len(all); i++ {
		all[n], all[i] = all[i], all[n]
		eachOrder(all, n+1, give)
		all[n], all[i] = all[i], all[n]
	}
}

func TestWrittenPerms(t *testing.T) {
	for _, c := range []struct {
		size int64
		a, b []int64
		want bool
	}{
		{1, []int64{0}, nil, true}, {1, nil, []int64{0}, true}, {1, nil, nil, false},
		{1, []int64{0}, []int64{0}, false}, {1, []int64{1}, nil, false}, {1, nil, []int64{-1}, false}, {1, []int64{1}, []int64{0}, false},
		{2, []int64{1, 0}, nil, true}, {2, []int64{1}, []int64{0}, true}, {2, []int64{0}, nil, false},
		{2, []int64{1, 1}, nil, false}, {2, []int64{1}, []int64{1}, false}, {2, []int64{2, 0}, nil, false}, {2, []int64{1, 2}, nil, false},
		{4, []int64{3, 0}, []int64{1, 2}, true}, {4, []int64{}, []int64{2, 3, 1, 0}, true}, {4, []int64{3, 0}, []int64{1, 1}, false},
		{4, []int64{0, 1, 2}, nil, false}, {4, []int64{0, 1, 2, 3}, []int64{0}, false}, {4, []int64{0, 1, 2, 3}, []int64{4}, false},
		{4, []int64{-1, 0}, []int64{1, 2}, false}, {4, []int64{1, 2}, []int64{3, 4}, false}, {4, []int64{0, 3}, []int64{0, 3}, false},
		// their sum is right
		{4, []int64{0, 0}, []int64{3, 3}, false}, {4, []int64{1, 1}, []int64{2, 2}, false}, {4, []int64{-1, 1}, []int64{2, 4}, false},
		{4, []int64{math.MaxInt64, math.MinInt64}, []int64{3, 4}, false},
		{8, []int64{7, 5, 3, 1}, []int64{0, 2, 4, 6}, true}, {8, []int64{7}, []int64{0, 1, 2, 3, 4, 5, 6}, true},
		{8, []int64{7, 5, 3, 1}, []int64{0, 2, 4, 7}, false}, {8, []int64{7, 5, 3, 1}, []int64{0, 2, 4, 8}, false}, {8, []int64{7, 5, 3, 1}, []int64{0, 2, 4}, false},
	} {
		for tasks := int64(1); tasks <= c.size; tasks++ {
			p := impl.Plan{Size: c.size, Tasks: tasks}
			checkPerm(t, p, c.a, c.b, c.want)
			checkPerm(t, p, c.b, c.a, c.want)
		}
	}
}

func TestAllPerms(t *testing.T) {
	for _, c := range rightSizes() {
		p := impl.Plan{Size: c.size, Tasks: c.size}
		all := upTo(c.size)
		eachOrder(all, 0, func() { checkParted(t, p, all, true) })
	}
}

func TestPermsOfAllPlans(t *testing.T) {
	for _, p := range rightPlans() {
		up, down := upTo(p.Size), upTo(p.Size)
		slices.Reverse(down)
		for _, all := range [][]int64{up, down} {
			checkParted(t, p, all, true)
			checkPerm(t, p, all, nil, true)
			checkPerm(t, p, nil, all, true)
		}
		checkPerm(t, p, nil, nil, false)
		checkPerm(t, p, []int64{}, nil, false)
		checkPerm(t, p, []int64{}, []int64{}, false)
	}
}

// TestAllShortLists asks of all lists of numbers from -1 to Size, up to one too
// many, where these are few enough.
func TestAllShortLists(t *testing.T) {
	for _, size := range []int64{1, 2, 4} {
		p, right := impl.Plan{Size: size, Tasks: 1}, 0
		lists := [][]int64{{}}
		for len(lists) > 0 {
			all := lists[0]
			lists = lists[1:]
			sorted := slices.Sorted(slices.Values(all))
			want := slices.Equal(sorted, upTo(size))
			if want {
				right++
			}
			checkParted(t, p, all, want)
			for n := int64(-1); n <= size && int64(len(all)) <= size; n++ {
				lists = append(lists, append(slices.Clone(all), n))
			}
		}
		if orders := map[int64]int{1: 1, 2: 2, 4: 24}[size]; right != orders {
			t.Errorf("%v: %d lists are right, not %d", p, right, orders)
		}
	}
}

func noNumbers(p impl.Plan) []int64 {
	list := []int64{math.MaxInt64, math.MinInt64, math.MaxInt64 - 1, math.MinInt64 + 1}
	for n := range 2 * p.Size {
		// cut to fewer bits, some of these would be right
		list = append(list, -1-n, p.Size+n, 1<<32+n, 1<<62+n, math.MinInt64+n)
	}
	return list
}

func TestPermsWithWrongNumber(t *testing.T) {
	for _, p := range rightPlans() {
		for i := range p.Size {
			for _, n := range noNumbers(p) {
				all := upTo(p.Size)
				all[i] = n
				checkParted(t, p, all, false)
				checkParted(t, p, slices.Insert(upTo(p.Size), int(i), n), false)
				checkParted(t, p, append(upTo(p.Size), n), false)
			}
		}
	}
}

func TestPermsOfTwiceTheSame(t *testing.T) {
	for _, p := range rightPlans() {
		for i := range p.Size {
			checkParted(t, p, slices.Delete(upTo(p.Size), int(i), int(i)+1), false)
			for n := range p.Size {
				all := upTo(p.Size)
				all[i] = n
				checkParted(t, p, all, i == n)
				checkParted(t, p, slices.Insert(upTo(p.Size), int(i), n), false)
				checkParted(t, p, append(upTo(p.Size), n), false)
			}
		}
		checkPerm(t, p, upTo(p.Size), upTo(p.Size), false)
		checkPerm(t, p, upTo(2*p.Size), nil, false)
		checkParted(t, p, make([]int64, p.Size), p.Size == 1)
		checkPerm(t, p, make([]int64, 5000), upTo(5000), false)
	}
}

// TestPermOkLeavesTheRoomBehind has numbers behind both lists that a careless
// append would write over, or that make a right list where they are counted.
func TestPermOkLeavesTheRoomBehind(t *testing.T) {
	for _, p := range rightPlans() {
		for i := range p.Size + 1 {
			rest := []int64{-7, 5, math.MaxInt64, math.MinInt64, 3, 2, 1, 0, -9}
			a := slices.Concat(upTo(p.Size)[:i], rest)[:i]
			b := slices.Concat(upTo(p.Size)[i:], rest)[:p.Size-i]
			checkPerm(t, p, a, b, true)
			checkPerm(t, p, b, a, true)
			checkPerm(t, p, a, a, false)
			if i < p.Size {
				checkPerm(t, p, upTo(p.Size)[:i], nil, false)
				checkPerm(t, p, nil, upTo(p.Size)[:i], false)
			}
		}
	}
}

func TestPermsOfWrongPlans(t *testing.T) {
	for _, p := range moreWrongPlans() {
		for size := range int64(18) {
			checkParted(t, p, upTo(size), false)
		}
		checkPerm(t, p, nil, nil, false)
		checkPerm(t, p, []int64{p.Size}, []int64{p.Tasks}, false)
		checkPerm(t, p, []int64{math.MaxInt64}, []int64{math.MinInt64}, false)
	}
}
