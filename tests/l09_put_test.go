package tests

import (
	"math"
	"math/rand/v2"
	"slices"
	"testing"

	"loop.example/g00738/impl"
)

// ringStep is PutStep or GetStep.
type ringStep func(p impl.Plan, r impl.Ring, h impl.Hand) (impl.Ring, impl.Hand, bool)

// ringRow is one row of the table of chapter 9 or 10, met in one way: how a ring
// and a hand are ahead of it, and what of these is another one then.
type ringRow struct {
	at          int64
	ahead, then func(r *impl.Ring, h *impl.Hand)
}

// putAts are the six of the chapter.
func putAts() []int64 {
	return []int64{impl.AtTail, impl.AtLoad, impl.AtHead, impl.AtSwap, impl.AtLook, impl.AtSet}
}

// putBase is of Size 4. The place of ticket 10, which is of cycle 1, is 4; what
// TakenBy makes of it and of 3 has the word 27.
func putBase() (impl.Ring, impl.Hand) {
	r := impl.Ring{Words: []int64{24, 15, 25, 15, 15, 15, 15, 15}, Head: 8, Tail: 11, Left: 7}
	h := impl.Hand{
		Call: impl.Call{Code: 1, Value: 77}, Ring: 1, Ticket: 10, Word: 15, Tail: 6, Head: 5,
		Index: 3, Begin: 9, Reply: 2, Out: 41,
	}
	return r, h
}

// mayRows load one word each, which stands at the place, from a hand with
// another one.
func mayRows() []ringRow {
	var rows []ringRow
	for _, c := range []struct{ word, at int64 }{
		{15, impl.AtSwap}, // free, of cycle 0, Safe
		{7, impl.AtHead},  // the same, not Safe
		{31, impl.AtTail}, // free, of cycle 1
		{23, impl.AtTail}, // the same, not Safe
		{39, impl.AtTail}, // free, of cycle 2, not Safe
		{10, impl.AtTail}, // a number lies there, of cycle 0, Safe
		{2, impl.AtTail},  // the same, not Safe
		{0, impl.AtTail},
		{26, impl.AtTail}, // of cycle 1
		{16000007, impl.AtTail},
		{16000015, impl.AtTail},
	} {
		rows = append(rows, ringRow{
			impl.AtLoad,
			func(r *impl.Ring, h *impl.Hand) { r.Words[4], h.Word = c.word, 25 },
			func(r *impl.Ring, h *impl.Hand) { h.At, h.Word = c.at, c.word },
		})
	}
	return rows
}

func headRows() []ringRow {
	var rows []ringRow
	for _, c := range []struct{ head, ticket, at int64 }{
		{10, 10, impl.AtSwap}, {9, 10, impl.AtSwap}, {0, 10, impl.AtSwap}, {0, 0, impl.AtSwap},
		{11, 10, impl.AtTail}, {12, 10, impl.AtTail}, {maxTicket, 10, impl.AtTail}, {1, 0, impl.AtTail},
		{maxTicket, maxTicket, impl.AtSwap}, {maxTicket, maxTicket - 1, impl.AtTail},
	} {
		rows = append(rows, ringRow{
			impl.AtHead,
			func(r *impl.Ring, h *impl.Hand) { r.Head, h.Ticket, h.Head = c.head, c.ticket, maxTicket+1-c.head },
			func(r *impl.Ring, h *impl.Hand) { h.At = c.at },
		})
	}
	return rows
}

// swapRows find the word that the hand has, or another one. Whether it may be
// taken is asked by load alone.
func swapRows() []ringRow {
	var rows []ringRow
	for _, c := range []struct{ stands, word int64 }{
		{15, 15}, {7, 7}, {31, 31}, {26, 26}, {27, 27}, {0, 0}, {16000015, 16000015},
		{15, 7}, {7, 15}, {31, 15}, {15, 31}, {27, 15}, {15, 27}, {14, 15}, {0, 1}, {15, 24}, {16000015, 16000014},
	} {
		rows = append(rows, ringRow{
			impl.AtSwap,
			func(r *impl.Ring, h *impl.Hand) { r.Words[4], h.Word = c.stands, c.word },
			func(r *impl.Ring, h *impl.Hand) {
				h.At = impl.AtLoad
				if c.stands == c.word {
					r.Words[4], h.At = 27, impl.AtLook
				}
			},
		})
	}
	return rows
}

func tailRows() []ringRow {
	var rows []ringRow
	for _, tail := range []int64{0, 1, 9, 10, 11, maxTicket - 2, maxTicket - 1} {
		rows = append(rows, ringRow{
			impl.AtTail,
			func(r *impl.Ring, h *impl.Hand) { r.Tail, h.Ticket = tail, 3 },
			func(r *impl.Ring, h *impl.Hand) { r.Tail, h.Ticket, h.At = tail+1, tail, impl.AtLoad },
		})
	}
	return rows
}

func leftRows() []ringRow {
	var rows []ringRow
	for _, left := range []int64{11, 10, 1, 0, -1, -maxLook + 1, -maxLook} {
		ahead := func(r *impl.Ring, h *impl.Hand) { r.Left = left }
		rows = append(rows, ringRow{impl.AtLook, ahead, func(r *impl.Ring, h *impl.Hand) {
			h.At = impl.AtSet
			if left == 11 {
				h.At = impl.AtDone
			}
		}}, ringRow{impl.AtSet, ahead, func(r *impl.Ring, h *impl.Hand) {
			r.Left, h.At = 11, impl.AtDone
		}})
	}
	return rows
}

func cloned(r impl.Ring) impl.Ring {
	r.Words = slices.Clone(r.Words)
	return r
}

// checkStep writes all over the answer, to the end of the room behind it, and
// looks whether any of that is in the ring that was given.
func checkStep(t *testing.T, name string, step ringStep, p impl.Plan, r impl.Ring, h impl.Hand, ring impl.Ring, hand impl.Hand) {
	t.Helper()
	checkLeaves(t, name, func() {
		gotRing, gotHand, is := step(p, r, h)
		if !is || !sameRing(gotRing, ring) || gotHand != hand {
			t.Errorf("%s(%v, %v, %+v) is %v, %+v, %v, not %v, %+v", name, p, r, h, gotRing, gotHand, is, ring, hand)
		}
		room := gotRing.Words[:cap(gotRing.Words)]
		for i := range room {
			room[i] = -5
		}
	}, r.Words)
}

func checkNoStep(t *testing.T, name string, step ringStep, p impl.Plan, r impl.Ring, h impl.Hand) {
	t.Helper()
	checkLeaves(t, name, func() {
		ring, hand, is := step(p, r, h)
		if is || len(ring.Words) != 0 || !sameRing(ring, impl.Ring{}) || hand != (impl.Hand{}) {
			t.Errorf("%s(%v, %v, %+v) is %v, %+v, %v", name, p, r, h, ring, hand, is)
		}
	}, r.Words)
}

func checkPut(t *testing.T, p impl.Plan, r impl.Ring, h impl.Hand, ring impl.Ring, hand impl.Hand) {
	t.Helper()
	checkStep(t, "PutStep", impl.PutStep, p, r, h, ring, hand)
}

func checkNoPut(t *testing.T, p impl.Plan, r impl.Ring, h impl.Hand) {
	t.Helper()
	checkNoStep(t, "PutStep", impl.PutStep, p, r, h)
}

// checkPutIf asks for what the table tells if it can be done, else for nothing.
func checkPutIf(t *testing.T, p impl.Plan, r impl.Ring, h impl.Hand, can bool) {
	t.Helper()
	if !can {
		checkNoPut(t, p, r, h)
		return
	}
	ring, hand := putWanted(p, r, h)
	checkPut(t, p, r, h, ring, hand)
}

// TestPutRows has its numbers worked out by hand, so that it stands beside the
// tests below, which reckon. All that a row does not name is left as it was.
func TestPutRows(t *testing.T) {
	rows := slices.Concat(tailRows(), mayRows(), headRows(), swapRows(), leftRows())
	for tasks := int64(1); tasks <= 4; tasks++ {
		p := impl.Plan{Size: 4, Tasks: tasks}
		for _, row := range rows {
			r, h := putBase()
			h.At = row.at
			row.ahead(&r, &h)
			ring, hand := cloned(r), h
			row.then(&ring, &hand)
			checkPut(t, p, r, h, ring, hand)
		}
	}
}

// putWanted reckons with numbers alone what the table tells.
func putWanted(p impl.Plan, r impl.Ring, h impl.Hand) (impl.Ring, impl.Hand) {
	slots, most := 2*p.Size, 3*p.Size-1
	cycle, place := h.Ticket/slots, slices.Index(jsOf(p), h.Ticket%slots)
	stands := r.Words[place]
	r = cloned(r)
	switch h.At {
	case impl.AtTail:
		h.Ticket, h.At = r.Tail, impl.AtLoad
		r.Tail++
	case impl.AtLoad:
		h.Word, h.At = stands, impl.AtTail
		if stands%slots == slots-1 && stands/(2*slots) < cycle {
			h.At = []int64{impl.AtHead, impl.AtSwap}[stands/slots%2]
		}
	case impl.AtHead:
		h.At = impl.AtTail
		if r.Head <= h.Ticket {
			h.At = impl.AtSwap
		}
	case impl.AtSwap:
		h.At = impl.AtLoad
		if stands == h.Word {
			r.Words[place], h.At = cycle*2*slots+slots+h.Index, impl.AtLook
		}
	case impl.AtLook:
		h.At = impl.AtSet
		if r.Left == most {
			h.At = impl.AtDone
		}
	case impl.AtSet:
		r.Left, h.At = most, impl.AtDone
	}
	return r, h
}

// someRing has tickets that lie near to each other, and words of cycles that
// lie near to theirs, each kind of them.
func someRing(chance *rand.Rand, p impl.Plan) (impl.Ring, int64) {
	slots := 2 * p.Size
	ticket := chance.Int64N(4 * slots)
	if chance.IntN(4) == 0 {
		ticket = maxTicket - chance.Int64N(4*slots)
	}
	r := plainRing(p)
	for place := range r.Words {
		word := (max(0, ticket/slots-2+chance.Int64N(4))*2+chance.Int64N(2))*slots + slots - 1
		r.Words[place] = word - chance.Int64N(2)*chance.Int64N(slots)
	}
	near := func() int64 { return min(maxTicket, max(0, ticket-2+chance.Int64N(5))) }
	r.Head, r.Tail, r.Left = near(), min(near(), maxTicket-1), 3*p.Size-1-chance.Int64N(3)
	return r, ticket
}

func TestPutOfSomeRings(t *testing.T) {
	for _, p := range rightPlans() {
		chance := rand.New(rand.NewPCG(9, uint64(p.Size)))
		bases := baseHands(p)
		for n := range 4000 {
			r, ticket := someRing(chance, p)
			h := bases[n%len(bases)]
			h.At, h.Ticket, h.Index = 1+chance.Int64N(6), ticket, chance.Int64N(p.Size)
			h.Word = r.Words[chance.IntN(len(r.Words))]
			if chance.IntN(2) == 0 {
				h.Word = r.Words[slices.Index(jsOf(p), ticket%(2*p.Size))]
			}
			checkPutIf(t, p, r, h, true)
		}
	}
}

// TestPutAtEachLimit has every number of the hand at its limits and beside
// them, where PutStep asks no more of it than HandOk does.
func TestPutAtEachLimit(t *testing.T) {
	for _, p := range rightPlans() {
		for _, r := range []impl.Ring{impl.NewRing(p), impl.FullRing(p)} {
			for _, h := range someHands(p) {
				h.Ticket = min(h.Ticket, maxTicket)
				if _, is := impl.EntryOf(p, h.Word); !is && h.At == impl.AtSwap {
					h.Word = greatestWord(p)
				}
				checkPutIf(t, p, r, h, h.Index != -1 && impl.AtTail <= h.At && h.At <= impl.AtSet)
			}
		}
	}
}

// rightPuts are hands that PutStep takes in a new or a full ring, one at each
// At for each kind of base hand.
func rightPuts(p impl.Plan) []impl.Hand {
	var list []impl.Hand
	for _, base := range baseHands(p) {
		for _, at := range putAts() {
			h := base
			h.At, h.Ticket, h.Index = at, min(h.Ticket, maxTicket), max(h.Index, 0)
			if at == impl.AtSwap {
				h.Word = min(h.Word, greatestWord(p))
			}
			list = append(list, h)
		}
	}
	return list
}

func TestRightPuts(t *testing.T) {
	for _, p := range rightPlans() {
		for _, h := range rightPuts(p) {
			for _, r := range []impl.Ring{impl.NewRing(p), impl.FullRing(p)} {
				checkPutIf(t, p, r, h, true)
			}
		}
	}
}

func TestNoPutOfWrongPlans(t *testing.T) {
	var rings []impl.Ring
	for _, c := range writtenRings() {
		rings = append(rings, c.new, c.full)
	}
	for _, p := range moreWrongPlans() {
		for _, q := range []impl.Plan{{Size: 1, Tasks: 1}, {Size: 4, Tasks: 1}, {Size: 8, Tasks: 1}} {
			for _, h := range rightPuts(q) {
				for _, r := range append(rings, impl.Ring{}) {
					checkNoPut(t, p, r, h)
				}
			}
		}
	}
}

// TestNoPutOfAnotherSize has rings that are right, but of another plan.
func TestNoPutOfAnotherSize(t *testing.T) {
	for _, p := range rightPlans() {
		for _, c := range writtenRings() {
			for _, h := range rightPuts(p) {
				if c.size != p.Size {
					checkNoPut(t, p, c.new, h)
					checkNoPut(t, p, c.full, h)
				}
			}
		}
	}
}

func TestNoPutInBadRings(t *testing.T) {
	for _, p := range rightPlans() {
		for _, r := range append(badRings(p), impl.Ring{}) {
			for _, h := range rightPuts(p)[:len(putAts())] {
				checkNoPut(t, p, r, h)
			}
		}
	}
}

// TestNoPutOfBadHands has each one fault, at each At; -1 and MaxTicket plus 1
// are no faults of a hand, but of one that puts.
func TestNoPutOfBadHands(t *testing.T) {
	for _, p := range rightPlans() {
		r := impl.NewRing(p)
		for _, right := range rightPuts(p) {
			for _, l := range handLimits(p)[1:] {
				for _, n := range l.passes() {
					h := right
					l.set(&h, n)
					checkNoPut(t, p, r, h)
				}
			}
			for _, c := range append(noCalls(), impl.Call{}) {
				h := right
				h.Call = c
				checkNoPut(t, p, r, h)
			}
			unplaced, late := right, right
			unplaced.Index, late.Ticket = -1, maxTicket+1
			checkNoPut(t, p, r, unplaced)
			checkNoPut(t, p, r, late)
			late.Index = -1
			checkNoPut(t, p, r, late)
		}
		for _, h := range badHands(p) {
			checkNoPut(t, p, r, h)
		}
	}
}

func TestNoPutAtOtherAts(t *testing.T) {
	ats := []int64{impl.AtRest, -1, -2, 22, 1 << 32, math.MaxInt64, math.MinInt64}
	for at := int64(impl.AtLeft); at <= impl.AtFound; at++ {
		ats = append(ats, at)
	}
	for _, at := range putAts() {
		// cut to fewer bits, these would be right
		ats = append(ats, 1<<32+at, math.MinInt64+at, -at)
	}
	for _, p := range rightPlans() {
		for _, h := range rightPuts(p) {
			for _, at := range ats {
				h.At = at
				checkNoPut(t, p, impl.NewRing(p), h)
				checkNoPut(t, p, impl.FullRing(p), h)
			}
			h.At, h.Call = impl.AtRest, impl.Call{}
			checkNoPut(t, p, impl.NewRing(p), h)
		}
	}
}

// TestPutOfWordsOfNoEntry: it is used by the swap alone.
func TestPutOfWordsOfNoEntry(t *testing.T) {
	for _, p := range rightPlans() {
		r := impl.NewRing(p)
		for _, word := range []int64{greatestWord(p) + 1, greatestWord(p) + 2*p.Size, 2 * greatestWord(p), maxWord - 1, maxWord} {
			for _, h := range rightPuts(p) {
				h.Word = word
				checkPutIf(t, p, r, h, h.At != impl.AtSwap)
			}
		}
	}
}

// TestPutWithTheTailAtItsLimit: only who draws a ticket would move it on.
func TestPutWithTheTailAtItsLimit(t *testing.T) {
	for _, p := range rightPlans() {
		for _, r := range []impl.Ring{impl.NewRing(p), impl.FullRing(p)} {
			r.Tail = maxTicket
			for _, h := range rightPuts(p) {
				checkPutIf(t, p, r, h, h.At != impl.AtTail)
			}
		}
	}
}

// TestPutLeavesTheRoomBehind has words behind those of the ring that a careless
// append would write over.
func TestPutLeavesTheRoomBehind(t *testing.T) {
	for _, c := range writtenRings() {
		p := impl.Plan{Size: c.size, Tasks: 1}
		for behind := range 4 {
			room := slices.Concat(c.full.Words, []int64{-7, 5, math.MaxInt64, -9}[:behind])
			r := c.full
			r.Words = room[:len(c.full.Words)]
			for _, h := range rightPuts(p) {
				h.Ticket, h.Word = 0, r.Words[0]
				checkPutIf(t, p, r, h, true)
				h.Index = -1
				checkNoPut(t, p, r, h)
			}
		}
	}
}

func TestPutBegun(t *testing.T) {
	n := []int64{math.MinInt64, math.MaxInt64}
	for _, p := range rightPlans() {
		hands := append(someHands(p), badHands(p)...)
		for i := range 2 {
			a, b := n[i], n[1-i]
			hands = append(hands, impl.Hand{
				At: a, Call: impl.Call{Code: b, Value: a}, Ring: b, Ticket: a, Word: b, Tail: a, Head: b,
				Index: a, Begin: b, Reply: a, Out: b,
			})
		}
		for _, h := range append(hands, impl.Hand{}, impl.Resting(0, 0)) {
			for _, index := range []int64{0, 1, p.Size - 1, p.Size, -1, -2, 1 << 32, math.MaxInt64, math.MinInt64} {
				want := impl.Hand{At: 1, Call: h.Call, Ring: h.Ring, Index: index, Begin: h.Begin, Reply: h.Reply, Out: h.Out}
				if got := impl.PutBegun(h, index); got != want {
					t.Errorf("PutBegun(%+v, %d) is %+v, not %+v", h, index, got, want)
				}
			}
		}
	}
}

// walk follows the putting or the getting of one number, step by step.
type walk struct {
	step ringStep
	p    impl.Plan
	r    impl.Ring
	h    impl.Hand
}

func beginWalk(p impl.Plan, r impl.Ring, index int64) *walk {
	h := impl.Hand{Call: impl.Call{Code: 1, Value: 5}, Ring: 1, Ticket: 3, Word: 2, Tail: 1, Head: 1, Begin: 8}
	return &walk{step: impl.PutStep, p: p, r: r, h: impl.PutBegun(h, index)}
}

// to makes a step for each of these and looks where it leads.
func (w *walk) to(t *testing.T, ats ...int64) {
	t.Helper()
	for i, at := range ats {
		ring, hand, is := w.step(w.p, w.r, w.h)
		if !is || hand.At != at {
			t.Fatalf("step %d of %v, %v, %+v is %v, %+v, %v, not at %d", i, w.p, w.r, w.h, ring, hand, is, at)
		}
		w.r, w.h = ring, hand
	}
}

// waysMet counts which steps have led from where to where.
type waysMet map[[2]int64]int

// alone goes on until it is at the end, with nobody else at the ring.
func (w *walk) alone(t *testing.T, end int64, met waysMet) {
	t.Helper()
	begun := w.r
	for steps := int64(0); w.h.At != end; steps++ {
		ring, hand, is := w.step(w.p, w.r, w.h)
		if !is || steps > 40*w.p.Size+40 {
			t.Fatalf("%v: what began in %v is at %v, %+v after %d steps", w.p, begun, w.r, w.h, steps)
		}
		met[[2]int64{w.h.At, hand.At}]++
		w.r, w.h = ring, hand
	}
}

// checkPutAlone holds promise 9 for one number: it is the last one, those that
// were there are as they were, and but for what was touched all is the same.
func checkPutAlone(t *testing.T, p impl.Plan, r impl.Ring, index int64, met waysMet) impl.Ring {
	t.Helper()
	w := beginWalk(p, r, index)
	w.alone(t, impl.AtDone, met)
	items := append(impl.ItemsOf(p, r), index)
	if got := impl.ItemsOf(p, w.r); !slices.Equal(got, items) {
		t.Fatalf("%v: %d put into %v makes the items %v of %v, not %v", p, index, r, got, w.r, items)
	}
	want := impl.Ring{Words: slices.Clone(r.Words), Head: r.Head, Tail: w.h.Ticket + 1, Left: 3*p.Size - 1}
	want.Words[impl.PlaceOf(p, w.h.Ticket)] = impl.WordOf(p, impl.TakenBy(p, w.h.Ticket, index))
	if !sameRing(w.r, want) || w.h.Ticket < r.Tail || w.h.Index != index {
		t.Fatalf("%v: %d put into %v makes %v, not %v, by %+v", p, index, r, w.r, want, w.h)
	}
	return w.r
}

// takenOut is what becomes of the ring by one who draws a ticket of its head and
// looks there at once.
func takenOut(p impl.Plan, r impl.Ring) impl.Ring {
	ticket := r.Head
	r.Head++
	return seen(p, r, ticket)
}

// seen is what becomes of it by one who has that ticket and looks there now.
func seen(p impl.Plan, r impl.Ring, ticket int64) impl.Ring {
	r = cloned(r)
	place := impl.PlaceOf(p, ticket)
	e, _ := impl.EntryOf(p, r.Words[place])
	switch impl.MayHave(p, e, ticket) {
	case 1:
		r.Words[place] = impl.WordOf(p, impl.Emptied(p, e))
	case 2:
		r.Words[place] = impl.WordOf(p, impl.LeftBy(p, e, ticket))
	}
	return r
}

func TestPutIntoNewRings(t *testing.T) {
	for _, p := range rightPlans() {
		up, down := impl.NewRing(p), impl.NewRing(p)
		for n := range p.Size {
			up = checkPutAlone(t, p, up, n, waysMet{})
			down = checkPutAlone(t, p, down, p.Size-1-n, waysMet{})
		}
		if !sameRing(up, impl.FullRing(p)) {
			t.Errorf("%v: all numbers put into a new ring make %v", p, up)
		}
		want := upTo(p.Size)
		slices.Reverse(want)
		checkItemsOf(t, p, down, want)
	}
}

// TestPutIntoRingsMovedOn holds promise 9 with each count of numbers in the
// ring, while its head and its tail go round more than three times.
func TestPutIntoRingsMovedOn(t *testing.T) {
	for _, p := range rightPlans() {
		for held := range p.Size {
			r := impl.NewRing(p)
			for n := range held {
				r = checkPutAlone(t, p, r, n, waysMet{})
			}
			for n := range 7 * p.Size {
				r = checkPutAlone(t, p, r, (held+n)%(held+1), waysMet{})
				r = takenOut(p, r)
				if int64(len(impl.ItemsOf(p, r))) != held {
					t.Fatalf("%v: %v has not %d items", p, r, held)
				}
			}
			if r.Head != 9*p.Size || r.Tail != 9*p.Size+held {
				t.Errorf("%v: the head and the tail of %v are not moved on", p, r)
			}
		}
	}
}

// TestPutUpToTheLastTicket goes on to the end of all tickets.
func TestPutUpToTheLastTicket(t *testing.T) {
	for _, p := range rightPlans() {
		r := impl.NewRing(p)
		r.Head, r.Tail = maxTicket-p.Size, maxTicket-p.Size
		for n := range p.Size {
			r = checkPutAlone(t, p, r, n, waysMet{})
		}
		checkNoPut(t, p, r, beginWalk(p, r, 0).h)
	}
}

// TestPutBesideOthers holds promise 9 for rings as others leave them who stand
// still: some draw a ticket of the head and look there much later, or come to a
// ring with nothing in it, so that there are marks, and entries not Safe.
func TestPutBesideOthers(t *testing.T) {
	for _, p := range rightPlans() {
		chance, r, met := rand.New(rand.NewPCG(19, uint64(p.Size))), impl.NewRing(p), waysMet{}
		var asleep []int64
		for range 3000 {
			switch n := chance.IntN(8); {
			case n < 3 && int64(len(impl.ItemsOf(p, r))) < p.Size:
				r = checkPutAlone(t, p, r, chance.Int64N(p.Size), met)
			case n < 5:
				r = takenOut(p, r)
			case n < 7 && int64(len(asleep)) < 2*p.Size:
				asleep = append(asleep, r.Head)
				r.Head++
			case len(asleep) > 0:
				i := chance.IntN(len(asleep))
				r = seen(p, r, asleep[i])
				asleep = slices.Delete(asleep, i, i+1)
			}
			if r.Tail < r.Head && chance.IntN(2) == 0 {
				r.Tail = r.Head
			}
			r.Left = chance.Int64N(3*p.Size+1) - 1
		}
		checkAllMet(t, p, met, putWays())
	}
}

// putWays are those that one alone goes: the swap finds the word that was read.
func putWays() [][2]int64 {
	return [][2]int64{
		{impl.AtTail, impl.AtLoad},
		{impl.AtLoad, impl.AtSwap}, {impl.AtLoad, impl.AtHead}, {impl.AtLoad, impl.AtTail},
		{impl.AtHead, impl.AtSwap}, {impl.AtHead, impl.AtTail},
		{impl.AtSwap, impl.AtLook},
		{impl.AtLook, impl.AtDone}, {impl.AtLook, impl.AtSet},
		{impl.AtSet, impl.AtDone},
	}
}

// checkAllMet looks whether each of these ways was met, and no other one.
func checkAllMet(t *testing.T, of any, met waysMet, ways [][2]int64) {
	t.Helper()
	for _, way := range ways {
		if met[way] == 0 {
			t.Errorf("%v: no step has led from %d to %d", of, way[0], way[1])
		}
		delete(met, way)
	}
	if len(met) > 0 {
		t.Errorf("%v: steps have led on ways that there are not: %v", of, met)
	}
}

// TestPutComesBackToLoad has the word changed ahead of the swap. The number goes
// on with its ticket, and by the word that it finds then.
func TestPutComesBackToLoad(t *testing.T) {
	for _, p := range rightPlans() {
		slots := 2 * p.Size
		r := impl.NewRing(p)
		r.Head, r.Tail = 2*slots, 2*slots
		begun := func(safe bool, cycle, head int64) *walk {
			w := beginWalk(p, r, p.Size-1)
			w.to(t, impl.AtLoad, impl.AtSwap)
			w.r.Words[0] = impl.WordOf(p, impl.Entry{Cycle: cycle, Safe: safe, Index: slots - 1})
			w.r.Head = head
			w.to(t, impl.AtLoad)
			if w.h.Ticket != 2*slots || w.h.Word != 2*slots-1 || w.r.Tail != 2*slots+1 {
				t.Errorf("%v: the swap that finds another word makes %v, %+v", p, w.r, w.h)
			}
			return w
		}
		still := begun(true, 1, 2*slots)
		still.to(t, impl.AtSwap, impl.AtLook, impl.AtSet, impl.AtDone)
		marked := begun(false, 1, 2*slots)
		marked.to(t, impl.AtHead, impl.AtSwap, impl.AtLook, impl.AtSet, impl.AtDone)
		past := begun(false, 1, 2*slots+1)
		past.to(t, impl.AtHead, impl.AtTail, impl.AtLoad, impl.AtSwap, impl.AtLook, impl.AtSet, impl.AtDone)
		gone := begun(true, 2, 2*slots+1)
		gone.to(t, impl.AtTail, impl.AtLoad, impl.AtSwap, impl.AtLook, impl.AtSet, impl.AtDone)
		for i, w := range []*walk{still, marked, past, gone} {
			ticket := 2*slots + int64(i/2)
			if w.h.Ticket != ticket || impl.ItemAt(p, w.r, ticket) != p.Size-1 {
				t.Errorf("%v: %d is not at ticket %d of %v, %+v", p, p.Size-1, ticket, w.r, w.h)
			}
			checkItemsOf(t, p, w.r, []int64{p.Size - 1})
		}
	}
}
