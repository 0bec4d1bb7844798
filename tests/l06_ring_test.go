package tests

import (
	"math"
	"slices"
	"testing"

	"loop.example/g00738/impl"
)

// maxLook is written out, so that another limit in the program is seen here.
const maxLook = 1000000

type ringCase struct {
	size      int64
	new, full impl.Ring
}

// writtenRings has its numbers worked out by hand, so that it stands beside the
// tests below, which ask other functions of the program.
func writtenRings() []ringCase {
	return []ringCase{
		{
			1,
			impl.Ring{Words: []int64{3, 3}, Head: 2, Tail: 2, Left: -1},
			impl.Ring{Words: []int64{6, 3}, Head: 2, Tail: 3, Left: 2},
		},
		{
			2,
			impl.Ring{Words: []int64{7, 7, 7, 7}, Head: 4, Tail: 4, Left: -1},
			impl.Ring{Words: []int64{12, 7, 13, 7}, Head: 4, Tail: 6, Left: 5},
		},
		{
			4,
			impl.Ring{Words: []int64{15, 15, 15, 15, 15, 15, 15, 15}, Head: 8, Tail: 8, Left: -1},
			impl.Ring{Words: []int64{24, 15, 25, 15, 26, 15, 27, 15}, Head: 8, Tail: 12, Left: 11},
		},
		{
			8,
			impl.Ring{
				Words: []int64{31, 31, 31, 31, 31, 31, 31, 31, 31, 31, 31, 31, 31, 31, 31, 31},
				Head:  16, Tail: 16, Left: -1,
			},
			impl.Ring{
				Words: []int64{48, 52, 31, 31, 49, 53, 31, 31, 50, 54, 31, 31, 51, 55, 31, 31},
				Head:  16, Tail: 24, Left: 23,
			},
		},
	}
}

// plainRing is a right one that is made without asking the program, with all
// that is not its words at 0.
func plainRing(p impl.Plan) impl.Ring {
	return impl.Ring{Words: make([]int64, 2*p.Size)}
}

func sameRing(a, b impl.Ring) bool {
	return slices.Equal(a.Words, b.Words) && a.Head == b.Head && a.Tail == b.Tail && a.Left == b.Left
}

// checkLeaves looks whether the lists that a call is given are as they were, to
// the end of the room behind them.
func checkLeaves(t *testing.T, name string, call func(), lists ...[]int64) {
	t.Helper()
	var before [][]int64
	for _, list := range lists {
		before = append(before, slices.Clone(list[:cap(list)]))
	}
	call()
	for i, list := range lists {
		if room := list[:cap(list)]; !slices.Equal(room, before[i]) {
			t.Errorf("%s has made %v of %v", name, room, before[i])
		}
	}
}

func checkRingOk(t *testing.T, p impl.Plan, r impl.Ring, want bool) {
	t.Helper()
	checkLeaves(t, "RingOk", func() {
		if got := impl.RingOk(p, r); got != want {
			t.Errorf("RingOk(%v, %v) is %v, not %v", p, r, got, want)
		}
	}, r.Words)
}

// checkRing compares the answer of NewRing or FullRing.
func checkRing(t *testing.T, p impl.Plan, name string, got, want impl.Ring) {
	t.Helper()
	if !sameRing(got, want) {
		t.Errorf("%s(%v) is %v, not %v", name, p, got, want)
	}
}

// badWords are no words of an Entry.
func badWords(p impl.Plan) []int64 {
	return []int64{
		-1, -2, greatestWord(p) + 1, 2 * greatestWord(p), -greatestWord(p), 1 << 62,
		math.MaxInt64, math.MaxInt64 - 1, math.MinInt64, math.MinInt64 + 1,
	}
}

// badWordLists are as long as they should not be, or hold one bad word. The
// first two are cut out of lists that would be right.
func badWordLists(p impl.Plan) [][]int64 {
	slots := 2 * p.Size
	lists := [][]int64{
		make([]int64, slots)[1:], make([]int64, slots-1, slots),
		nil, {}, make([]int64, 0, slots), make([]int64, slots+1), make([]int64, 2*slots), make([]int64, p.Size),
	}
	for place := range slots {
		for _, word := range badWords(p) {
			list := make([]int64, slots, slots+2)
			list[place] = word
			lists = append(lists, list)
		}
	}
	return lists
}

// badRings each have one thing that is not right, and a few have all of them.
// But for that they are full, so that whoever misses it has numbers to tell.
func badRings(p impl.Plan) []impl.Ring {
	var rings []impl.Ring
	for _, words := range badWordLists(p) {
		r := impl.FullRing(p)
		r.Words = words
		rings = append(rings, r)
	}
	for _, ticket := range noTickets() {
		head, tail := impl.FullRing(p), impl.FullRing(p)
		head.Head, tail.Tail = ticket, ticket
		rings = append(rings, head, tail)
	}
	for _, left := range badLefts(p) {
		r := impl.FullRing(p)
		r.Left = left
		rings = append(rings, r)
	}
	for _, n := range []int64{math.MaxInt64, math.MinInt64} {
		rings = append(rings, impl.Ring{Words: []int64{n}, Head: n, Tail: n, Left: n})
	}
	return rings
}

func badLefts(p impl.Plan) []int64 {
	return []int64{
		-maxLook - 1, -maxLook - 2, 3 * p.Size, 3*p.Size + 1, maxLook, 1 << 32, -1 << 32,
		math.MaxInt64, math.MinInt64, math.MinInt64 + 1,
	}
}

func TestWrittenRings(t *testing.T) {
	for _, c := range writtenRings() {
		for tasks := int64(1); tasks <= c.size; tasks++ {
			p := impl.Plan{Size: c.size, Tasks: tasks}
			checkRing(t, p, "NewRing", impl.NewRing(p), c.new)
			checkRing(t, p, "FullRing", impl.FullRing(p), c.full)
			checkRingOk(t, p, c.new, true)
			checkRingOk(t, p, c.full, true)
		}
	}
}

// TestNewRing holds the one half of promise 6.
func TestNewRing(t *testing.T) {
	for _, p := range rightPlans() {
		slots, r := 2*p.Size, impl.NewRing(p)
		checkRingOk(t, p, r, true)
		if r.Head != slots || r.Tail != slots || r.Left != -1 || int64(len(r.Words)) != slots {
			t.Errorf("NewRing(%v) is %v", p, r)
		}
		for place, word := range r.Words {
			e, is := impl.EntryOf(p, word)
			if !is || e != (impl.Entry{Safe: true, Index: slots - 1}) || word != impl.WordOf(p, e) {
				t.Errorf("NewRing(%v) has the word %d of %v, %v at %d", p, word, e, is, place)
			}
		}
		for ticket := slots; ticket < 3*slots; ticket++ {
			e, _ := impl.EntryOf(p, r.Words[impl.PlaceOf(p, ticket)])
			if got := impl.MayTake(p, e, ticket); got != 1 {
				t.Errorf("MayTake(%v, %v, %d) is %d in a new ring", p, e, ticket, got)
			}
		}
	}
}

// TestFullRing holds the other half of promise 6.
func TestFullRing(t *testing.T) {
	for _, p := range rightPlans() {
		slots, r := 2*p.Size, impl.FullRing(p)
		checkRingOk(t, p, r, true)
		want := impl.Ring{Words: impl.NewRing(p).Words, Head: slots, Tail: slots + p.Size, Left: 3*p.Size - 1}
		for number := range p.Size {
			ticket := slots + number
			e := impl.TakenBy(p, ticket, number)
			if e != (impl.Entry{Cycle: 1, Safe: true, Index: number}) {
				t.Errorf("TakenBy(%v, %d, %d) is %v", p, ticket, number, e)
			}
			want.Words[impl.PlaceOf(p, ticket)] = impl.WordOf(p, e)
		}
		checkRing(t, p, "FullRing", r, want)
	}
}

// TestFullRingHasAll goes through the words as they lie: each number once, to be
// had by the ticket that goes there, and all else free.
func TestFullRingHasAll(t *testing.T) {
	for _, p := range rightPlans() {
		slots, r := 2*p.Size, impl.FullRing(p)
		has := map[int64]bool{}
		for place, word := range r.Words {
			e, is := impl.EntryOf(p, word)
			if !is {
				t.Errorf("FullRing(%v) has the word %d at %d", p, word, place)
			}
			if e.Index == slots-1 {
				continue
			}
			ticket := slots + impl.Unspot(p, int64(place))
			if e.Index >= p.Size || has[e.Index] || ticket != slots+e.Index || impl.MayHave(p, e, ticket) != 1 {
				t.Errorf("FullRing(%v) has %v at %d", p, e, place)
			}
			has[e.Index] = true
		}
		if int64(len(has)) != p.Size {
			t.Errorf("FullRing(%v) has %d numbers in it", p, len(has))
		}
	}
}

// TestRingsShareNothing writes all over one answer, to the end of the room
// behind it, and looks at the others, made ahead of it and later.
func TestRingsShareNothing(t *testing.T) {
	for _, c := range writtenRings() {
		p := impl.Plan{Size: c.size, Tasks: c.size}
		for _, build := range []func(impl.Plan) impl.Ring{impl.NewRing, impl.FullRing} {
			otherNew, otherFull, r := impl.NewRing(p), impl.FullRing(p), build(p)
			room := r.Words[:cap(r.Words)]
			for i := range room {
				room[i] = -5
			}
			checkRing(t, p, "NewRing", otherNew, c.new)
			checkRing(t, p, "FullRing", otherFull, c.full)
			checkRing(t, p, "NewRing", impl.NewRing(p), c.new)
			checkRing(t, p, "FullRing", impl.FullRing(p), c.full)
		}
	}
}

func TestRingsOfRightWords(t *testing.T) {
	for _, p := range rightPlans() {
		slots := 2 * p.Size
		for place := range slots {
			for _, word := range []int64{0, 1, slots - 1, slots, 2*slots - 1, greatestWord(p) - 1, greatestWord(p)} {
				r := plainRing(p)
				r.Words[place] = word
				checkRingOk(t, p, r, true)
			}
		}
		r := plainRing(p)
		for place := range r.Words {
			r.Words[place] = greatestWord(p)
		}
		checkRingOk(t, p, r, true)
	}
}

func TestRingsOfBadWords(t *testing.T) {
	for _, p := range rightPlans() {
		for _, words := range badWordLists(p) {
			r := plainRing(p)
			r.Words = words
			checkRingOk(t, p, r, false)
		}
	}
}

func TestRingsOfTickets(t *testing.T) {
	for _, p := range rightPlans() {
		for _, ticket := range append(edgeTickets(p), maxTicket-1, maxTicket) {
			// no rule tells that the head is not past the tail
			checkRingOk(t, p, impl.Ring{Words: plainRing(p).Words, Head: ticket}, true)
			checkRingOk(t, p, impl.Ring{Words: plainRing(p).Words, Tail: ticket}, true)
			checkRingOk(t, p, impl.Ring{Words: plainRing(p).Words, Head: ticket, Tail: ticket}, true)
		}
		for _, ticket := range noTickets() {
			checkRingOk(t, p, impl.Ring{Words: plainRing(p).Words, Head: ticket}, false)
			checkRingOk(t, p, impl.Ring{Words: plainRing(p).Words, Tail: ticket}, false)
			checkRingOk(t, p, impl.Ring{Words: plainRing(p).Words, Head: ticket, Tail: ticket}, false)
		}
	}
}

func TestRingsOfLeft(t *testing.T) {
	if impl.MaxLook != maxLook {
		t.Errorf("MaxLook is %d", impl.MaxLook)
	}
	for _, p := range rightPlans() {
		for _, left := range []int64{-maxLook, -maxLook + 1, -2, -1, 0, 1, p.Size, 3*p.Size - 2, 3*p.Size - 1} {
			checkRingOk(t, p, impl.Ring{Words: plainRing(p).Words, Left: left}, true)
		}
		for _, left := range badLefts(p) {
			checkRingOk(t, p, impl.Ring{Words: plainRing(p).Words, Left: left}, false)
		}
	}
}

func TestBadRings(t *testing.T) {
	for _, p := range rightPlans() {
		for _, r := range badRings(p) {
			checkRingOk(t, p, r, false)
		}
		checkRingOk(t, p, impl.Ring{}, false)
	}
}

// TestRingOkLeavesTheRoomBehind has words behind those of the ring that a
// careless append would write over.
func TestRingOkLeavesTheRoomBehind(t *testing.T) {
	for _, c := range writtenRings() {
		p := impl.Plan{Size: c.size, Tasks: 1}
		for _, r := range []impl.Ring{c.new, c.full} {
			for behind := range 4 {
				room := slices.Concat(r.Words, []int64{-7, 5, math.MaxInt64, -9}[:behind])
				r.Words = room[:len(r.Words)]
				checkRingOk(t, p, r, true)
				r.Head = -r.Head
				checkRingOk(t, p, r, false)
				r.Head = -r.Head
			}
		}
	}
}

func TestRingsOfWrongPlans(t *testing.T) {
	for _, p := range moreWrongPlans() {
		checkRing(t, p, "NewRing", impl.NewRing(p), impl.Ring{})
		checkRing(t, p, "FullRing", impl.FullRing(p), impl.Ring{})
		checkRingOk(t, p, impl.Ring{}, false)
		for _, c := range writtenRings() {
			checkRingOk(t, p, c.new, false)
			checkRingOk(t, p, c.full, false)
		}
		for slots := range 40 {
			checkRingOk(t, p, impl.Ring{Words: make([]int64, slots)}, false)
			checkRingOk(t, p, impl.Ring{Words: make([]int64, slots), Left: -1}, false)
		}
		for _, n := range []int64{math.MaxInt64, math.MinInt64} {
			checkRingOk(t, p, impl.Ring{Words: []int64{n}, Head: n, Tail: n, Left: n}, false)
		}
	}
}
