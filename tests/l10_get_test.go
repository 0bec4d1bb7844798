package tests

import (
	"math"
	"math/rand/v2"
	"slices"
	"testing"

	"loop.example/g00738/impl"
)

// getAts are the eleven of the chapter.
func getAts() []int64 {
	return []int64{
		impl.AtLeft, impl.AtNext, impl.AtSee, impl.AtOr, impl.AtMark, impl.AtEnd,
		impl.AtLess, impl.AtCatch, impl.AtAgain, impl.AtAfter, impl.AtLast,
	}
}

// getBase is of Size 4. The place of ticket 10, which is of cycle 1, is 4; the
// words of that cycle are 16 to 31, those from 24 on are Safe, and 7 is none.
func getBase() (impl.Ring, impl.Hand) {
	r := impl.Ring{Words: []int64{24, 15, 25, 15, 26, 15, 15, 15}, Head: 8, Tail: 13, Left: 7}
	h := impl.Hand{
		Call: impl.Call{Code: 1, Value: 77}, Ring: 1, Ticket: 10, Word: 25, Tail: 6, Head: 5,
		Index: 2, Begin: 9, Reply: 2, Out: 41,
	}
	return r, h
}

// lookRows have the three steps that ask or lessen Left.
func lookRows() []ringRow {
	var rows []ringRow
	for _, left := range []int64{11, 10, 2, 1, 0, -1, -2, -maxLook + 1, -maxLook} {
		ahead := func(r *impl.Ring, h *impl.Hand) { r.Left = left }
		rows = append(rows, ringRow{impl.AtLeft, ahead, func(r *impl.Ring, h *impl.Hand) {
			h.At = impl.AtNext
			if left < 0 {
				h.At, h.Index = impl.AtFound, -1
			}
		}})
		if left == -maxLook {
			continue
		}
		rows = append(rows, ringRow{impl.AtLess, ahead, func(r *impl.Ring, h *impl.Hand) {
			r.Left, h.At = left-1, impl.AtNext
			if left < 1 {
				h.At, h.Index = impl.AtFound, -1
			}
		}}, ringRow{impl.AtLast, ahead, func(r *impl.Ring, h *impl.Hand) {
			r.Left, h.At, h.Index = left-1, impl.AtFound, -1
		}})
	}
	return rows
}

func nextRows() []ringRow {
	var rows []ringRow
	for _, head := range []int64{0, 1, 9, 10, 11, 12, maxTicket - 2, maxTicket - 1} {
		rows = append(rows, ringRow{
			impl.AtNext,
			func(r *impl.Ring, h *impl.Hand) { r.Head = head },
			func(r *impl.Ring, h *impl.Hand) { r.Head, h.Ticket, h.At = head+1, head, impl.AtSee },
		})
	}
	return rows
}

// seeRows see one word each, which stands at the place, from a hand with
// another one. Of the last two tickets, the cycles are 0 and 124999.
func seeRows() []ringRow {
	var rows []ringRow
	for _, c := range []struct{ ticket, word, at int64 }{
		{10, 26, impl.AtOr}, {10, 18, impl.AtOr}, // a number lies there, of cycle 1, Safe and not
		{10, 31, impl.AtOr}, {10, 23, impl.AtOr}, // it is free
		{10, 16, impl.AtOr}, {10, 24, impl.AtOr},
		{10, 28, impl.AtOr}, {10, 22, impl.AtOr}, // its Index is more than Size less 1
		{10, 15, impl.AtMark}, {10, 7, impl.AtMark}, {10, 10, impl.AtMark}, {10, 2, impl.AtMark}, {10, 0, impl.AtMark},
		{10, 32, impl.AtEnd}, {10, 47, impl.AtEnd}, {10, 39, impl.AtEnd}, {10, 42, impl.AtEnd}, {10, 34, impl.AtEnd},
		{10, 16000007, impl.AtEnd}, {10, 16000015, impl.AtEnd},
		{2, 15, impl.AtOr}, {2, 0, impl.AtOr}, {2, 16, impl.AtEnd}, {2, 31, impl.AtEnd},
		{maxTicket - 6, 1999999, impl.AtOr}, {maxTicket - 6, 1999984, impl.AtOr},
		{maxTicket - 6, 1999983, impl.AtMark}, {maxTicket - 6, 2000000, impl.AtEnd},
	} {
		rows = append(rows, ringRow{
			impl.AtSee,
			func(r *impl.Ring, h *impl.Hand) { r.Words[4], h.Ticket, h.Word = c.word, c.ticket, 25 },
			func(r *impl.Ring, h *impl.Hand) { h.At, h.Word = c.at, c.word },
		})
	}
	return rows
}

// orRows find what the hand's word tells, whatever stands there by now; and of
// that one the Cycle and whether it is Safe stay.
func orRows() []ringRow {
	var rows []ringRow
	for _, c := range []struct{ stands, word, then, index int64 }{
		{26, 26, 31, 2}, {24, 24, 31, 0}, {27, 27, 31, 3}, {18, 18, 23, 2},
		{31, 31, 31, -1}, {23, 23, 23, -1},
		{18, 26, 23, 2}, // another one has left a mark since
		{26, 18, 31, 2}, {31, 25, 31, 1}, {42, 26, 47, 2}, {10, 27, 15, 3}, {0, 24, 7, 0}, {7, 24, 7, 0},
		{28, 26, 31, 2}, {30, 31, 31, -1}, {20, 23, 23, -1}, // what stands there may have any Index
		{26, 10, 31, 2}, {26, 2, 31, 2}, {26, 0, 31, 0}, {26, 15, 31, -1}, {26, 7, 31, -1}, // a word of any cycle
		{26, 16000015, 31, -1}, {26, 16000003, 31, 3}, {16000008, 25, 16000015, 1}, {16000015, 16000011, 16000015, 3},
	} {
		rows = append(rows, ringRow{
			impl.AtOr,
			func(r *impl.Ring, h *impl.Hand) { r.Words[4], h.Word = c.stands, c.word },
			func(r *impl.Ring, h *impl.Hand) { r.Words[4], h.At, h.Index = c.then, impl.AtFound, c.index },
		})
	}
	return rows
}

// markRows find the word that the hand has, and what LeftBy makes of it; or
// another one. Which cycle is later is asked by see alone.
func markRows() []ringRow {
	var rows []ringRow
	for _, c := range []struct{ stands, word, then, at int64 }{
		{15, 15, 31, impl.AtEnd}, {7, 7, 23, impl.AtEnd}, {31, 31, 31, impl.AtEnd}, {23, 23, 23, impl.AtEnd},
		{47, 47, 31, impl.AtEnd}, {39, 39, 23, impl.AtEnd}, {16000015, 16000015, 31, impl.AtEnd},
		{10, 10, 2, impl.AtEnd}, {2, 2, 2, impl.AtEnd}, {8, 8, 0, impl.AtEnd}, {0, 0, 0, impl.AtEnd}, {14, 14, 6, impl.AtEnd},
		{26, 26, 18, impl.AtEnd}, {18, 18, 18, impl.AtEnd}, {42, 42, 34, impl.AtEnd}, {16000010, 16000010, 16000002, impl.AtEnd},
		{15, 7, 15, impl.AtSee}, {7, 15, 7, impl.AtSee}, {31, 15, 31, impl.AtSee}, {15, 31, 15, impl.AtSee},
		{26, 10, 26, impl.AtSee}, {26, 15, 26, impl.AtSee}, {2, 10, 2, impl.AtSee}, {15, 10, 15, impl.AtSee},
		{11, 10, 11, impl.AtSee}, {0, 1, 0, impl.AtSee}, {15, 24, 15, impl.AtSee}, {16000015, 16000014, 16000015, impl.AtSee},
	} {
		rows = append(rows, ringRow{
			impl.AtMark,
			func(r *impl.Ring, h *impl.Hand) { r.Words[4], h.Word = c.stands, c.word },
			func(r *impl.Ring, h *impl.Hand) { r.Words[4], h.At = c.then, c.at },
		})
	}
	return rows
}

// endRows leave Head as it was where the Tail is past what is next.
func endRows() []ringRow {
	var rows []ringRow
	for _, c := range []struct{ tail, ticket, head, at int64 }{
		{11, 10, 11, impl.AtCatch}, {10, 10, 11, impl.AtCatch}, {9, 10, 11, impl.AtCatch}, {0, 10, 11, impl.AtCatch},
		{12, 10, 5, impl.AtLess}, {13, 10, 5, impl.AtLess}, {maxTicket, 10, 5, impl.AtLess},
		{0, 0, 1, impl.AtCatch}, {1, 0, 1, impl.AtCatch}, {2, 0, 5, impl.AtLess},
		{maxTicket, maxTicket, maxTicket + 1, impl.AtCatch}, {0, maxTicket, maxTicket + 1, impl.AtCatch},
		{maxTicket, maxTicket - 1, maxTicket, impl.AtCatch}, {maxTicket, maxTicket - 2, 5, impl.AtLess},
	} {
		rows = append(rows, ringRow{
			impl.AtEnd,
			func(r *impl.Ring, h *impl.Hand) { r.Tail, h.Ticket = c.tail, c.ticket },
			func(r *impl.Ring, h *impl.Hand) { h.Tail, h.Head, h.At = c.tail, c.head, c.at },
		})
	}
	return rows
}

// catchRows move the ring's Tail to the hand's Head where it is as it was read,
// be it further on or back; the ring's Head has no part in it.
func catchRows() []ringRow {
	var rows []ringRow
	for _, c := range []struct{ stands, tail, head, then, at int64 }{
		{10, 10, 11, 11, impl.AtLast}, {10, 10, 10, 10, impl.AtLast}, {10, 10, 9, 9, impl.AtLast}, {10, 10, 0, 0, impl.AtLast},
		{0, 0, 1, 1, impl.AtLast}, {0, 0, maxTicket, maxTicket, impl.AtLast}, {maxTicket, maxTicket, 3, 3, impl.AtLast},
		{11, 10, 11, 11, impl.AtAgain}, {9, 10, 11, 9, impl.AtAgain}, {10, 11, 10, 10, impl.AtAgain}, {12, 10, 11, 12, impl.AtAgain},
		{0, 1, 1, 0, impl.AtAgain}, {1, 0, 1, 1, impl.AtAgain}, {0, maxTicket, 5, 0, impl.AtAgain}, {8, 5, 5, 8, impl.AtAgain},
		{maxTicket, maxTicket + 1, maxTicket + 1, maxTicket, impl.AtAgain}, {maxTicket - 1, maxTicket, maxTicket + 1, maxTicket - 1, impl.AtAgain},
	} {
		rows = append(rows, ringRow{
			impl.AtCatch,
			func(r *impl.Ring, h *impl.Hand) { r.Tail, h.Tail, h.Head = c.stands, c.tail, c.head },
			func(r *impl.Ring, h *impl.Hand) { r.Tail, h.At = c.then, c.at },
		})
	}
	return rows
}

func againRows() []ringRow {
	var rows []ringRow
	for _, head := range []int64{0, 1, 5, 8, 11, maxTicket - 1, maxTicket} {
		rows = append(rows, ringRow{
			impl.AtAgain,
			func(r *impl.Ring, h *impl.Hand) { r.Head = head },
			func(r *impl.Ring, h *impl.Hand) { h.Head, h.At = head, impl.AtAfter },
		})
	}
	return rows
}

// afterRows ask for the hand's Head, whatever that of the ring is by now.
func afterRows() []ringRow {
	var rows []ringRow
	for _, c := range []struct{ tail, head, at int64 }{
		{11, 11, impl.AtLast}, {12, 11, impl.AtLast}, {0, 0, impl.AtLast}, {maxTicket, 0, impl.AtLast}, {maxTicket, maxTicket, impl.AtLast},
		{10, 11, impl.AtCatch}, {0, 1, impl.AtCatch}, {0, maxTicket + 1, impl.AtCatch},
		{maxTicket, maxTicket + 1, impl.AtCatch}, {maxTicket - 1, maxTicket, impl.AtCatch},
		{7, 7, impl.AtLast}, {7, 8, impl.AtCatch}, {9, 9, impl.AtLast}, {9, 10, impl.AtCatch},
	} {
		rows = append(rows, ringRow{
			impl.AtAfter,
			func(r *impl.Ring, h *impl.Hand) { r.Tail, h.Head = c.tail, c.head },
			func(r *impl.Ring, h *impl.Hand) { h.Tail, h.At = c.tail, c.at },
		})
	}
	return rows
}

func checkGet(t *testing.T, p impl.Plan, r impl.Ring, h impl.Hand, ring impl.Ring, hand impl.Hand) {
	t.Helper()
	checkStep(t, "GetStep", impl.GetStep, p, r, h, ring, hand)
}

func checkNoGet(t *testing.T, p impl.Plan, r impl.Ring, h impl.Hand) {
	t.Helper()
	checkNoStep(t, "GetStep", impl.GetStep, p, r, h)
}

// checkGetIf asks for what the table tells if it can be done, else for nothing.
func checkGetIf(t *testing.T, p impl.Plan, r impl.Ring, h impl.Hand, can bool) {
	t.Helper()
	if !can {
		checkNoGet(t, p, r, h)
		return
	}
	ring, hand := getWanted(p, r, h)
	checkGet(t, p, r, h, ring, hand)
}

// TestGetRows has its numbers worked out by hand, so that it stands beside the
// tests below, which reckon. All that a row does not name is left as it was.
func TestGetRows(t *testing.T) {
	rows := slices.Concat(
		lookRows(), nextRows(), seeRows(), orRows(), markRows(), endRows(), catchRows(), againRows(), afterRows(),
	)
	for tasks := int64(1); tasks <= 4; tasks++ {
		p := impl.Plan{Size: 4, Tasks: tasks}
		for _, row := range rows {
			for _, index := range []int64{2, -1} {
				r, h := getBase()
				h.At, h.Index = row.at, index
				row.ahead(&r, &h)
				ring, hand := cloned(r), h
				row.then(&ring, &hand)
				checkGet(t, p, r, h, ring, hand)
			}
		}
	}
}

// getWanted reckons with numbers alone what the table tells.
func getWanted(p impl.Plan, r impl.Ring, h impl.Hand) (impl.Ring, impl.Hand) {
	slots := 2 * p.Size
	cycle, place := h.Ticket/slots, slices.Index(jsOf(p), h.Ticket%slots)
	stands := r.Words[place]
	r = cloned(r)
	where := func(is bool, at, otherwise int64) {
		h.At = otherwise
		if is {
			h.At = at
		}
	}
	switch h.At {
	case impl.AtLeft:
		where(r.Left >= 0, impl.AtNext, impl.AtFound)
	case impl.AtNext:
		h.Ticket, h.At = r.Head, impl.AtSee
		r.Head++
	case impl.AtSee:
		h.Word = stands
		where(stands/slots/2 < cycle, impl.AtMark, impl.AtEnd)
		where(stands/slots/2 == cycle, impl.AtOr, h.At)
	case impl.AtOr:
		r.Words[place], h.At, h.Index = stands-stands%slots+slots-1, impl.AtFound, h.Word%slots
		if h.Index < slots-1 {
			return r, h
		}
	case impl.AtMark:
		where(stands == h.Word, impl.AtEnd, impl.AtSee)
		if stands == h.Word && stands%slots == slots-1 {
			r.Words[place] = cycle*2*slots + stands%(2*slots)
		} else if stands == h.Word {
			r.Words[place] = stands - stands/slots%2*slots
		}
	case impl.AtEnd:
		h.Tail = r.Tail
		where(r.Tail <= h.Ticket+1, impl.AtCatch, impl.AtLess)
		if h.At == impl.AtCatch {
			h.Head = h.Ticket + 1
		}
	case impl.AtLess:
		r.Left--
		where(r.Left >= 0, impl.AtNext, impl.AtFound)
	case impl.AtCatch:
		where(r.Tail == h.Tail, impl.AtLast, impl.AtAgain)
		if r.Tail == h.Tail {
			r.Tail = h.Head
		}
	case impl.AtAgain:
		h.Head, h.At = r.Head, impl.AtAfter
	case impl.AtAfter:
		h.Tail = r.Tail
		where(r.Tail >= h.Head, impl.AtLast, impl.AtCatch)
	case impl.AtLast:
		r.Left--
		h.At = impl.AtFound
	}
	if h.At == impl.AtFound {
		h.Index = -1
	}
	return r, h
}

// findsNoPlace tells whether the hand would find a number that is none of a place.
func findsNoPlace(p impl.Plan, h impl.Hand) bool {
	index := h.Word % (2 * p.Size)
	return h.At == impl.AtOr && p.Size <= index && index < 2*p.Size-1
}

func TestGetOfSomeRings(t *testing.T) {
	for _, p := range rightPlans() {
		chance := rand.New(rand.NewPCG(10, uint64(p.Size)))
		bases := baseHands(p)
		for n := range 8000 {
			r, ticket := someRing(chance, p)
			h := bases[n%len(bases)]
			h.At, h.Ticket, h.Index = 7+chance.Int64N(11), ticket, chance.Int64N(p.Size+1)-1
			h.Word = r.Words[chance.IntN(len(r.Words))]
			if chance.IntN(2) == 0 {
				h.Word = r.Words[slices.Index(jsOf(p), ticket%(2*p.Size))]
			}
			h.Head, h.Tail = max(0, r.Tail-1+chance.Int64N(3)), max(0, r.Tail-1+chance.Int64N(3))
			r.Head, r.Left = min(r.Head, maxTicket-1), chance.Int64N(5)-2
			checkGetIf(t, p, r, h, !findsNoPlace(p, h))
		}
	}
}

// TestGetAtEachLimit has every number of the hand at its limits and beside
// them, where GetStep asks no more of it than HandOk does.
func TestGetAtEachLimit(t *testing.T) {
	for _, p := range rightPlans() {
		for _, r := range []impl.Ring{impl.NewRing(p), impl.FullRing(p)} {
			for _, h := range someHands(p) {
				h.Ticket = min(h.Ticket, maxTicket)
				if h.At == impl.AtOr || h.At == impl.AtMark {
					h.Word = min(h.Word, greatestWord(p))
				}
				checkGetIf(t, p, r, h, impl.AtLeft <= h.At && h.At <= impl.AtLast && !findsNoPlace(p, h))
			}
		}
	}
}

// rightGets are hands that GetStep takes in a new or a full ring, one at each
// At for each kind of base hand.
func rightGets(p impl.Plan) []impl.Hand {
	var list []impl.Hand
	for _, base := range baseHands(p) {
		for _, at := range getAts() {
			h := base
			h.At, h.Ticket = at, min(h.Ticket, maxTicket)
			if at == impl.AtOr || at == impl.AtMark {
				h.Word = min(h.Word, greatestWord(p))
			}
			list = append(list, h)
		}
	}
	return list
}

func TestRightGets(t *testing.T) {
	for _, p := range rightPlans() {
		for _, h := range rightGets(p) {
			for _, r := range []impl.Ring{impl.NewRing(p), impl.FullRing(p)} {
				checkGetIf(t, p, r, h, true)
			}
		}
	}
}

func TestNoGetOfWrongPlans(t *testing.T) {
	var rings []impl.Ring
	for _, c := range writtenRings() {
		rings = append(rings, c.new, c.full)
	}
	for _, p := range moreWrongPlans() {
		for _, q := range []impl.Plan{{Size: 1, Tasks: 1}, {Size: 4, Tasks: 1}, {Size: 8, Tasks: 1}} {
			for _, h := range rightGets(q) {
				for _, r := range append(rings, impl.Ring{}) {
					checkNoGet(t, p, r, h)
				}
			}
		}
	}
}

// TestNoGetOfAnotherSize has rings that are right, but of another plan.
func TestNoGetOfAnotherSize(t *testing.T) {
	for _, p := range rightPlans() {
		for _, c := range writtenRings() {
			for _, h := range rightGets(p) {
				if c.size != p.Size {
					checkNoGet(t, p, c.new, h)
					checkNoGet(t, p, c.full, h)
				}
			}
		}
	}
}

func TestNoGetInBadRings(t *testing.T) {
	for _, p := range rightPlans() {
		for _, r := range append(badRings(p), impl.Ring{}) {
			for _, h := range rightGets(p)[:len(getAts())] {
				checkNoGet(t, p, r, h)
			}
		}
	}
}

// TestNoGetOfBadHands has each one fault, at each At; MaxTicket plus 1 is no
// fault of a hand, but of one that gets; and -1 is none here.
func TestNoGetOfBadHands(t *testing.T) {
	for _, p := range rightPlans() {
		r := impl.FullRing(p)
		for _, right := range rightGets(p) {
			for _, l := range handLimits(p)[1:] {
				for _, n := range l.passes() {
					h := right
					l.set(&h, n)
					checkNoGet(t, p, r, h)
				}
			}
			for _, c := range append(noCalls(), impl.Call{}) {
				h := right
				h.Call = c
				checkNoGet(t, p, r, h)
			}
			unplaced, late := right, right
			unplaced.Index, late.Ticket = -1, maxTicket+1
			checkGetIf(t, p, r, unplaced, true)
			checkNoGet(t, p, r, late)
			late.Index = -1
			checkNoGet(t, p, r, late)
		}
		for _, h := range badHands(p) {
			checkNoGet(t, p, r, h)
		}
	}
}

func TestNoGetAtOtherAts(t *testing.T) {
	ats := []int64{
		impl.AtRest, impl.AtLay, impl.AtRead, impl.AtDone, impl.AtFound,
		-1, -2, 22, 1 << 32, math.MaxInt64, math.MinInt64,
	}
	ats = append(ats, putAts()...)
	for _, at := range getAts() {
		// cut to fewer bits, these would be right
		ats = append(ats, 1<<32+at, math.MinInt64+at, -at)
	}
	for _, p := range rightPlans() {
		for _, h := range rightGets(p) {
			for _, at := range ats {
				h.At = at
				checkNoGet(t, p, impl.NewRing(p), h)
				checkNoGet(t, p, impl.FullRing(p), h)
			}
			h.At, h.Call = impl.AtRest, impl.Call{}
			checkNoGet(t, p, impl.NewRing(p), h)
		}
	}
}

// TestGetOfWordsOfNoEntry: it is used where what it tells is found or marked.
func TestGetOfWordsOfNoEntry(t *testing.T) {
	for _, p := range rightPlans() {
		slots := 2 * p.Size
		for _, word := range []int64{greatestWord(p) + 1, greatestWord(p) + slots, 2 * greatestWord(p), maxWord - maxWord%slots, maxWord} {
			for _, h := range rightGets(p) {
				h.Word = word
				uses := h.At == impl.AtOr || h.At == impl.AtMark
				checkGetIf(t, p, impl.NewRing(p), h, !uses)
				checkGetIf(t, p, impl.FullRing(p), h, !uses)
			}
		}
	}
}

// TestGetFindsNoMoreThanSize asks of each Index and each cycle: what is found is
// the number of a place, or none; in all other steps, no one asks for it.
func TestGetFindsNoMoreThanSize(t *testing.T) {
	for _, p := range rightPlans() {
		slots := 2 * p.Size
		for _, cycle := range []int64{0, 1, 2, maxCycle} {
			for index := range slots {
				for _, safe := range []int64{0, slots} {
					word := cycle*2*slots + safe + index
					for _, h := range rightGets(p) {
						h.Word = word
						can := h.At != impl.AtOr || index < p.Size || index == slots-1
						checkGetIf(t, p, impl.FullRing(p), h, can)
					}
				}
			}
		}
	}
}

// TestGetWithTheHeadAtItsLimit: only who draws a ticket would move it on.
func TestGetWithTheHeadAtItsLimit(t *testing.T) {
	for _, p := range rightPlans() {
		for _, r := range []impl.Ring{impl.NewRing(p), impl.FullRing(p)} {
			r.Head = maxTicket
			for _, h := range rightGets(p) {
				checkGetIf(t, p, r, h, h.At != impl.AtNext)
			}
		}
	}
}

// TestGetWithLeftAtItsLeast: only who makes it less would pass the limit.
func TestGetWithLeftAtItsLeast(t *testing.T) {
	for _, p := range rightPlans() {
		for _, r := range []impl.Ring{impl.NewRing(p), impl.FullRing(p)} {
			r.Left = -maxLook
			for _, h := range rightGets(p) {
				checkGetIf(t, p, r, h, h.At != impl.AtLess && h.At != impl.AtLast)
			}
		}
	}
}

// TestGetCatchesUpToTickets: a Head of MaxTicket plus 1 is right in the hand, but
// would be no Tail of the ring.
func TestGetCatchesUpToTickets(t *testing.T) {
	for _, p := range rightPlans() {
		for _, r := range []impl.Ring{impl.NewRing(p), impl.FullRing(p)} {
			for _, tail := range []int64{0, r.Tail, maxTicket} {
				r.Tail = tail
				for _, h := range rightGets(p) {
					h.Head, h.Tail = maxTicket+1, tail
					checkGetIf(t, p, r, h, h.At != impl.AtCatch)
					h.Tail = tail + 1
					checkGetIf(t, p, r, h, true)
					h.Head, h.Tail = maxTicket, tail
					checkGetIf(t, p, r, h, true)
				}
			}
		}
	}
}

// TestGetLeavesTheRoomBehind has words behind those of the ring that a careless
// append would write over.
func TestGetLeavesTheRoomBehind(t *testing.T) {
	for _, c := range writtenRings() {
		p := impl.Plan{Size: c.size, Tasks: 1}
		for behind := range 4 {
			room := slices.Concat(c.full.Words, []int64{-7, 5, math.MaxInt64, -9}[:behind])
			r := c.full
			r.Words = room[:len(c.full.Words)]
			for _, h := range rightGets(p) {
				h.Ticket, h.Word = 0, r.Words[0]
				checkGetIf(t, p, r, h, true)
				h.Ticket = maxTicket + 1
				checkNoGet(t, p, r, h)
			}
		}
	}
}

func TestGetBegun(t *testing.T) {
	n := []int64{math.MinInt64, math.MaxInt64}
	for _, p := range rightPlans() {
		hands := append(someHands(p), badHands(p)...)
		for i := range 2 {
			a, b := n[i], n[1-i]
			hands = append(hands, impl.Hand{
				At: a, Call: impl.Call{Code: b, Value: a}, Ring: b, Ticket: a, Word: b, Tail: a, Head: b,
				Index: a, Begin: b, Reply: a, Out: b,
			})
		}
		for _, h := range append(hands, impl.Hand{}, impl.Resting(0, 0)) {
			want := impl.Hand{At: 7, Call: h.Call, Ring: h.Ring, Index: -1, Begin: h.Begin, Reply: h.Reply, Out: h.Out}
			if got := impl.GetBegun(h); got != want {
				t.Errorf("GetBegun(%+v) is %+v, not %+v", h, got, want)
			}
		}
	}
}

func beginGet(p impl.Plan, r impl.Ring) *walk {
	h := impl.Hand{Call: impl.Call{Code: 2}, Ring: 1, Ticket: 3, Word: 2, Tail: 1, Head: 1, Begin: 8}
	return &walk{step: impl.GetStep, p: p, r: r, h: impl.GetBegun(h)}
}

// standing are the items with their tickets, by what the words tell.
func standing(t *testing.T, p impl.Plan, r impl.Ring) []stood {
	t.Helper()
	var entries []impl.Entry
	for _, word := range r.Words {
		e, is := impl.EntryOf(p, word)
		if !is {
			t.Fatalf("%v has the word %d", r, word)
		}
		entries = append(entries, e)
	}
	return itemsIn(p, entries)
}

// checkGetAlone holds promise 10 for one number: it is the first one, and those
// behind it are as they were; where there is none, it is empty as it was.
func checkGetAlone(t *testing.T, p impl.Plan, r impl.Ring, met waysMet) impl.Ring {
	t.Helper()
	return checkGetOf(t, p, r, standing(t, p, r), met)
}

// checkGetOf asks for the first one of those, which are some of the items that
// are in the ring: all other ones are as they were.
func checkGetOf(t *testing.T, p impl.Plan, r impl.Ring, free []stood, met waysMet) impl.Ring {
	t.Helper()
	w := beginGet(p, r)
	w.alone(t, impl.AtFound, met)
	index, items := int64(-1), standing(t, p, r)
	if len(free) > 0 {
		index = free[0].index
		items = slices.DeleteFunc(items, func(it stood) bool { return it == free[0] })
		if w.h.Ticket != free[0].ticket || w.r.Head != w.h.Ticket+1 || w.r.Tail != r.Tail {
			t.Fatalf("%v: %v is got out of %v by %+v, which makes %v", p, free[0], r, w.h, w.r)
		}
	}
	if w.h.Index != index || !slices.Equal(standing(t, p, w.r), items) {
		t.Fatalf("%v: %d is got out of %v, not %d, which makes %v", p, w.h.Index, r, index, w.r)
	}
	var all []int64
	for _, it := range items {
		all = append(all, it.index)
	}
	checkItemsOf(t, p, w.r, all)
	return w.r
}

// checkDrained gets from an empty ring of that Left, whose Head and Tail are the
// same, until it makes no sense to look any more, and then a few times.
func checkDrained(t *testing.T, p impl.Plan, r impl.Ring) {
	t.Helper()
	for left := r.Left; left >= -3; left-- {
		want := r
		if r.Left >= 0 {
			want.Head, want.Tail, want.Left = r.Head+1, r.Head+1, r.Left-1
		}
		before := r
		r = checkGetAlone(t, p, r, waysMet{})
		if r.Head != want.Head || r.Tail != want.Tail || r.Left != want.Left || left < 0 && !sameRing(r, before) {
			t.Fatalf("%v: what is got out of %v makes %v", p, before, r)
		}
	}
}

func TestGetOutOfFullRings(t *testing.T) {
	for _, p := range rightPlans() {
		slots, most := 2*p.Size, 3*p.Size-1
		r := impl.FullRing(p)
		for n := range p.Size {
			w := beginGet(p, r)
			w.to(t, impl.AtNext, impl.AtSee, impl.AtOr, impl.AtFound)
			if w.h.Index != n || w.h.Ticket != slots+n {
				t.Fatalf("%v: what is got out of %v is %+v", p, r, w.h)
			}
			r = checkGetAlone(t, p, r, waysMet{})
			want := impl.Ring{Words: impl.FullRing(p).Words, Head: slots + n + 1, Tail: slots + p.Size, Left: most}
			for out := range n + 1 {
				want.Words[impl.PlaceOf(p, slots+out)] = 4*slots - 1 // free, of cycle 1, Safe
			}
			if !sameRing(r, want) {
				t.Fatalf("%v: what is got out makes %v, not %v", p, r, want)
			}
		}
		w := beginGet(p, r)
		w.to(t, impl.AtNext, impl.AtSee, impl.AtMark, impl.AtEnd, impl.AtCatch, impl.AtLast, impl.AtFound)
		checkDrained(t, p, r)
	}
}

// TestGetOutOfEmptyRings has the Head and the Tail far on, and each Left.
func TestGetOutOfEmptyRings(t *testing.T) {
	for _, p := range rightPlans() {
		for left := int64(-2); left < 3*p.Size; left++ {
			for _, head := range []int64{2 * p.Size, 2*p.Size + 1, 77, maxTicket / 2, maxTicket - 4*p.Size} {
				r := impl.NewRing(p)
				r.Head, r.Tail, r.Left = head, head, left
				checkDrained(t, p, r)
			}
		}
		r := impl.NewRing(p)
		r.Left = -maxLook
		if got := checkGetAlone(t, p, r, waysMet{}); !sameRing(got, r) {
			t.Errorf("%v: what is got out of %v makes %v", p, r, got)
		}
	}
}

// TestGetWhereTheTailIsElsewhere has tickets drawn of the tail by others who put
// nothing in, or of the head by others who did not catch up.
func TestGetWhereTheTailIsElsewhere(t *testing.T) {
	for _, p := range rightPlans() {
		for left := int64(-1); left < 3*p.Size; left++ {
			for past := -2 * p.Size; past <= 5*p.Size; past++ {
				r := impl.NewRing(p)
				r.Head, r.Tail, r.Left = 9*p.Size, 9*p.Size+past, left
				// each look is by the next ticket, and ends at the one that comes to the Tail
				looks := min(left+1, max(1, past))
				want := impl.Ring{Head: r.Head + looks, Tail: r.Tail, Left: left - looks}
				if looks > 0 {
					want.Tail = max(r.Tail, want.Head)
				}
				got := checkGetAlone(t, p, r, waysMet{})
				if got.Head != want.Head || got.Tail != want.Tail || got.Left != want.Left {
					t.Fatalf("%v: what is got out of %v makes %v, not %v", p, r, got, want)
				}
			}
		}
	}
}

// TestGetOutOfRingsMovedOn holds promise 10 with each count of numbers in the
// ring, while its head and its tail go round more than three times.
func TestGetOutOfRingsMovedOn(t *testing.T) {
	for _, p := range rightPlans() {
		for held := int64(1); held <= p.Size; held++ {
			r := impl.NewRing(p)
			for n := range held {
				r = checkPutAlone(t, p, r, n, waysMet{})
			}
			for n := range 7 * p.Size {
				r = checkGetAlone(t, p, r, waysMet{})
				r = checkPutAlone(t, p, r, n%held, waysMet{})
			}
			if r.Head != 9*p.Size || r.Tail != 9*p.Size+held {
				t.Errorf("%v: the head and the tail of %v are not moved on", p, r)
			}
		}
	}
}

// TestGetUntilThereIsNone fills the ring and empties it by turns, and looks once
// more each time; each turn moves the head and the tail on by one more.
func TestGetUntilThereIsNone(t *testing.T) {
	for _, p := range rightPlans() {
		for held := range p.Size + 1 {
			r := impl.NewRing(p)
			for range 7 * p.Size {
				for n := range held {
					r = checkPutAlone(t, p, r, p.Size-1-n, waysMet{})
				}
				for range held + 1 {
					r = checkGetAlone(t, p, r, waysMet{})
				}
			}
			turns := 7 * p.Size * (held + 1)
			if held == 0 {
				turns = 0 // it never makes sense to look
			}
			if r.Head != 2*p.Size+turns || r.Tail != r.Head {
				t.Errorf("%v: the head and the tail of %v are not moved on", p, r)
			}
		}
	}
}

// TestGetUpToTheLastTicket goes on to the end of all tickets.
func TestGetUpToTheLastTicket(t *testing.T) {
	for _, p := range rightPlans() {
		r := impl.NewRing(p)
		r.Head, r.Tail = maxTicket-p.Size, maxTicket-p.Size
		for n := range p.Size {
			r = checkPutAlone(t, p, r, n, waysMet{})
		}
		for range p.Size {
			r = checkGetAlone(t, p, r, waysMet{})
		}
		w := beginGet(p, r)
		w.to(t, impl.AtNext)
		checkNoGet(t, p, w.r, w.h)
	}
}

// TestGetComesBackToSee has the word changed ahead of the mark. The getting goes
// on with its ticket, and by the word that it finds then.
func TestGetComesBackToSee(t *testing.T) {
	for _, p := range rightPlans() {
		slots := 2 * p.Size
		r := impl.NewRing(p)
		r.Left = 1
		none := impl.Entry{Safe: true, Index: slots - 1}
		begun := func(e impl.Entry) *walk {
			w := beginGet(p, r)
			w.to(t, impl.AtNext, impl.AtSee, impl.AtMark)
			w.r.Words[0] = impl.WordOf(p, e)
			before := w.r
			w.to(t, impl.AtSee)
			if w.h.Ticket != slots || w.h.Word != impl.WordOf(p, none) || !sameRing(w.r, before) {
				t.Errorf("%v: the mark that finds another word makes %v, %+v", p, w.r, w.h)
			}
			return w
		}
		check := func(w *walk, e impl.Entry, index int64) {
			t.Helper()
			if w.h.Ticket != slots || w.h.Index != index || w.r.Words[0] != impl.WordOf(p, e) {
				t.Errorf("%v: what is got is %+v and makes %v, not %v", p, w.h, w.r, e)
			}
		}
		put := begun(impl.Entry{Cycle: 1, Safe: true, Index: p.Size - 1})
		put.to(t, impl.AtOr, impl.AtFound)
		check(put, impl.Entry{Cycle: 1, Safe: true, Index: slots - 1}, p.Size-1)
		unsafe := begun(impl.Entry{Index: slots - 1})
		unsafe.to(t, impl.AtMark, impl.AtEnd)
		check(unsafe, impl.Entry{Cycle: 1, Index: slots - 1}, -1)
		old := begun(impl.Entry{Safe: true})
		old.to(t, impl.AtMark, impl.AtEnd)
		check(old, impl.Entry{}, -1)
		later := begun(impl.Entry{Cycle: 2, Safe: true})
		later.to(t, impl.AtEnd)
		check(later, impl.Entry{Cycle: 2, Safe: true}, -1)
	}
}

// TestGetComesTooLate has one stand still until its place is of a later cycle.
// Nothing was lost by that: the Tail was caught up past its ticket.
func TestGetComesTooLate(t *testing.T) {
	for _, p := range rightPlans() {
		slots := 2 * p.Size
		r := impl.NewRing(p)
		r.Left = 3*p.Size - 1
		late := beginGet(p, r)
		late.to(t, impl.AtNext, impl.AtSee)
		r = checkGetAlone(t, p, late.r, waysMet{})
		for range slots {
			r = checkPutAlone(t, p, r, 0, waysMet{})
			r = checkGetAlone(t, p, r, waysMet{})
		}
		late.r = checkPutAlone(t, p, r, p.Size-1, waysMet{})
		before := late.r
		late.to(t, impl.AtEnd, impl.AtLess)
		if late.h.Ticket != slots || late.h.Tail != 2*slots+3 || late.h.Head != 0 || !sameRing(late.r, before) {
			t.Errorf("%v: who comes too late makes %v, %+v", p, late.r, late.h)
		}
		late.to(t, impl.AtNext, impl.AtSee, impl.AtOr, impl.AtFound)
		if late.h.Ticket != 2*slots+2 || late.h.Index != p.Size-1 || late.r.Left != 3*p.Size-2 {
			t.Errorf("%v: who comes too late has %+v, and makes %v", p, late.h, late.r)
		}
	}
}

// TestGetFindsWhatWasSeen has a mark left by another one, of a later ticket for
// the same place, between the look and the taking.
func TestGetFindsWhatWasSeen(t *testing.T) {
	for _, p := range rightPlans() {
		slots := 2 * p.Size
		w := beginGet(p, impl.FullRing(p))
		w.to(t, impl.AtNext, impl.AtSee, impl.AtOr)
		w.r = seen(p, w.r, 2*slots)
		if got := standing(t, p, w.r)[0]; got != (stood{slots, 0}) {
			t.Errorf("%v: the mark makes %v of the first one", p, got)
		}
		w.to(t, impl.AtFound)
		want := impl.WordOf(p, impl.Entry{Cycle: 1, Index: slots - 1})
		if w.h.Index != 0 || w.r.Words[0] != want {
			t.Errorf("%v: what is got is %+v and makes %v, not %d", p, w.h, w.r, want)
		}
	}
}

// TestGetCatchesUpBesideOthers has the Tail moved on, or the Head, or both,
// between where the Tail is read and where it would be moved.
func TestGetCatchesUpBesideOthers(t *testing.T) {
	for _, p := range rightPlans() {
		begun := func(head, tail int64) *walk {
			r := impl.NewRing(p)
			r.Head, r.Tail, r.Left = 30, 30, 1
			w := beginGet(p, r)
			w.to(t, impl.AtNext, impl.AtSee, impl.AtMark, impl.AtEnd, impl.AtCatch)
			if w.h.Tail != 30 || w.h.Head != 31 || w.r.Head != 31 || w.r.Tail != 30 {
				t.Errorf("%v: what is caught up makes %v, %+v", p, w.r, w.h)
			}
			w.r.Head, w.r.Tail = head, tail
			return w
		}
		check := func(w *walk, tail, handTail, handHead int64) {
			t.Helper()
			if w.r.Tail != tail || w.r.Left != 0 || w.h.Tail != handTail || w.h.Head != handHead || w.h.Index != -1 {
				t.Errorf("%v: what was caught up makes %v, %+v", p, w.r, w.h)
			}
		}
		alone := begun(31, 30)
		alone.to(t, impl.AtLast, impl.AtFound)
		check(alone, 31, 30, 31)
		heads := begun(33, 30) // it is moved to the Head that was, and no further
		heads.to(t, impl.AtLast, impl.AtFound)
		check(heads, 31, 30, 31)
		done := begun(31, 31)
		done.to(t, impl.AtAgain, impl.AtAfter, impl.AtLast, impl.AtFound)
		check(done, 31, 31, 31)
		past := begun(33, 40)
		past.to(t, impl.AtAgain, impl.AtAfter, impl.AtLast, impl.AtFound)
		check(past, 40, 40, 33)
		behind := begun(33, 32)
		behind.to(t, impl.AtAgain, impl.AtAfter, impl.AtCatch, impl.AtLast, impl.AtFound)
		check(behind, 33, 32, 33)
		twice := begun(33, 32)
		twice.to(t, impl.AtAgain, impl.AtAfter, impl.AtCatch)
		twice.r.Tail = 34
		twice.to(t, impl.AtAgain, impl.AtAfter, impl.AtLast, impl.AtFound)
		check(twice, 34, 34, 33)
	}
}

// crowd are tasks at one ring, each of which may stand still at any step.
type crowd struct {
	p      impl.Plan
	r      impl.Ring
	busy   []*walk
	chance *rand.Rand
	met    waysMet
}

// stepOne has one of those at work make its next step, rather one that came late,
// so that others stand still for long. Who was about to tell the others that
// there is something to look for does so at once: until then, it is not in.
func (c *crowd) stepOne(t *testing.T) {
	t.Helper()
	i := max(c.chance.IntN(len(c.busy)), c.chance.IntN(len(c.busy)))
	w := c.busy[i]
	for again := true; again; again = w.h.At == impl.AtLook || w.h.At == impl.AtSet {
		ring, hand, is := w.step(c.p, c.r, w.h)
		if !is {
			t.Fatalf("%v: there is no step of %+v in %v", c.p, w.h, c.r)
		}
		if w.h.At >= impl.AtLeft {
			c.met[[2]int64{w.h.At, hand.At}]++
		}
		c.r, w.h = ring, hand
	}
	if w.h.At == impl.AtDone || w.h.At == impl.AtFound {
		c.busy = slices.Delete(c.busy, i, i+1)
	}
}

// begin has one more task put something in, as long as there are not more numbers
// than places, or get something out.
func (c *crowd) begin() {
	numbers := int64(len(impl.ItemsOf(c.p, c.r)))
	for _, w := range c.busy {
		if w.h.At < impl.AtLeft {
			numbers++
		}
	}
	if c.chance.IntN(2) == 0 && numbers < c.p.Size {
		c.busy = append(c.busy, beginWalk(c.p, c.r, c.chance.Int64N(c.p.Size)))
	} else {
		c.busy = append(c.busy, beginGet(c.p, c.r))
	}
}

// free are the items that are not to be had by one who stands still, as those
// are whose tickets have been drawn of the head.
func (c *crowd) free(t *testing.T) []stood {
	t.Helper()
	return slices.DeleteFunc(standing(t, c.p, c.r), func(it stood) bool { return it.ticket < c.r.Head })
}

func getWays() [][2]int64 {
	return [][2]int64{
		{impl.AtLeft, impl.AtNext}, {impl.AtLeft, impl.AtFound},
		{impl.AtNext, impl.AtSee},
		{impl.AtSee, impl.AtOr}, {impl.AtSee, impl.AtMark}, {impl.AtSee, impl.AtEnd},
		{impl.AtOr, impl.AtFound},
		{impl.AtMark, impl.AtEnd}, {impl.AtMark, impl.AtSee},
		{impl.AtEnd, impl.AtCatch}, {impl.AtEnd, impl.AtLess},
		{impl.AtLess, impl.AtNext}, {impl.AtLess, impl.AtFound},
		{impl.AtCatch, impl.AtLast}, {impl.AtCatch, impl.AtAgain},
		{impl.AtAgain, impl.AtAfter},
		{impl.AtAfter, impl.AtLast}, {impl.AtAfter, impl.AtCatch},
		{impl.AtLast, impl.AtFound},
	}
}

// TestGetBesideOthers holds promise 10 for rings as others leave them who stand
// still, as many as there are tasks but for the one that gets. What is to be had
// by one of those is not got by another one.
func TestGetBesideOthers(t *testing.T) {
	met := waysMet{}
	for _, p := range rightPlans() {
		c := &crowd{p: p, r: impl.NewRing(p), chance: rand.New(rand.NewPCG(10, uint64(p.Size*8+p.Tasks))), met: met}
		for range 12000 {
			switch n := c.chance.IntN(12); {
			case n == 0:
				c.r = checkGetOf(t, p, c.r, c.free(t), met)
			case n < 3 && int64(len(c.busy)) < p.Tasks-1:
				c.begin()
			case n == 3 && len(c.busy) == 0 && int64(len(impl.ItemsOf(p, c.r))) < p.Size:
				c.r = checkPutAlone(t, p, c.r, c.chance.Int64N(p.Size), waysMet{})
			case len(c.busy) > 0:
				c.stepOne(t)
			}
		}
	}
	checkAllMet(t, "all plans", met, getWays())
}
