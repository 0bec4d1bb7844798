package tests

import (
	"math"
	"math/rand/v2"
	"slices"
	"testing"

	"loop.example/g00738/impl"
)

// fieldRow is a field of some words, by hand: what is in its rings, and what it
// holds of the Data 70, 71 and so on.
type fieldRow struct {
	size        int64
	free, taken []int64
	holds       []int64
	whole       bool
}

// writtenFields has its numbers worked out by hand, so that it stands beside the
// tests below, which reckon.
func writtenFields() []fieldRow {
	return []fieldRow{
		// Size 1: a cycle is 4, from 2 on it is Safe, 1 is none
		{1, []int64{6, 3}, []int64{3, 3}, nil, true},
		{1, []int64{3, 3}, []int64{6, 3}, []int64{70}, true},
		{1, []int64{3, 3}, []int64{3, 4}, []int64{70}, true},
		{1, []int64{6, 3}, []int64{6, 3}, []int64{70}, false},
		{1, []int64{3, 3}, []int64{3, 3}, nil, false},
		{1, []int64{3, 3}, []int64{6, 8}, []int64{70, 70}, false},
		// Size 2: a cycle is 8, from 4 on it is Safe, 3 is none; the places are of 0, 2, 1, 3
		{2, []int64{12, 7, 13, 7}, []int64{7, 7, 7, 7}, nil, true},
		{2, []int64{7, 7, 7, 7}, []int64{12, 7, 13, 7}, []int64{70, 71}, true},
		{2, []int64{7, 7, 7, 7}, []int64{13, 7, 12, 7}, []int64{71, 70}, true},
		{2, []int64{7, 7, 7, 7}, []int64{20, 7, 7, 13}, []int64{71, 70}, true}, // place 0 has gone round once more
		{2, []int64{7, 13, 7, 7}, []int64{7, 12, 7, 7}, []int64{70}, true},
		{2, []int64{7, 13, 7, 7}, []int64{7, 9, 7, 7}, []int64{71}, false},
		{2, []int64{7, 12, 7, 7}, []int64{7, 9, 7, 7}, []int64{71}, true},
		{2, []int64{7, 14, 7, 7}, []int64{7, 9, 7, 7}, []int64{71}, false}, // 2 is no place
		{2, []int64{7, 12, 7, 7}, []int64{7, 9, 10, 7}, nil, false},
		{2, []int64{7, 12, 7, 7}, []int64{2, 9, 7, 7}, nil, false},
		// Size 4: a cycle is 16, from 8 on it is Safe, 7 is none; the places are of 0, 4, 1, 5, 2, 6, 3, 7
		{4, []int64{15, 15, 15, 15, 15, 15, 15, 15}, []int64{41, 56, 26, 43, 27, 30, 15, 15}, nil, false},
		{4, []int64{15, 15, 15, 15, 15, 15, 15, 15}, []int64{41, 56, 26, 47, 27, 15, 15, 15}, []int64{72, 73, 71, 70}, true},
		{4, []int64{31, 24, 23, 27, 31, 15, 15, 15}, []int64{15, 15, 15, 15, 15, 15, 17, 2}, []int64{72, 71}, true},
		{4, []int64{31, 24, 23, 27, 31, 15, 15, 15}, []int64{15, 15, 15, 15, 15, 15, 18, 2}, []int64{72, 72}, false},
		{4, []int64{31, 24, 23, 22, 31, 15, 15, 15}, []int64{15, 15, 15, 15, 15, 15, 17, 2}, []int64{72, 71}, false},
	}
}

// withWords has these words, and all else of the rings at a limit.
func withWords(p impl.Plan, free, taken []int64) impl.Field {
	return impl.Field{
		Rings: []impl.Ring{{Words: free, Head: maxTicket, Left: -maxLook}, {Words: taken, Tail: maxTicket, Left: 3*p.Size - 1}},
		Data:  dataOf(p),
	}
}

// dataOf are 70, 71 and so on, one for each place.
func dataOf(p impl.Plan) []int64 {
	var data []int64
	for place := range p.Size {
		data = append(data, 70+place)
	}
	return data
}

// takenField is whole and holds all of its Data: the full ring is the second one.
func takenField(p impl.Plan) impl.Field {
	return impl.Field{Rings: []impl.Ring{impl.NewRing(p), impl.FullRing(p)}, Data: dataOf(p)}
}

// freeField is whole and holds nothing, with that Data.
func freeField(p impl.Plan) impl.Field {
	return impl.Field{Rings: []impl.Ring{impl.FullRing(p), impl.NewRing(p)}, Data: dataOf(p)}
}

func clonedField(f impl.Field) impl.Field {
	var rings []impl.Ring
	for _, r := range f.Rings {
		rings = append(rings, cloned(r))
	}
	return impl.Field{Rings: rings, Data: slices.Clone(f.Data)}
}

// checkFieldLeaves looks whether the field that a call is given is as it was, to
// the end of the room behind each of its lists.
func checkFieldLeaves(t *testing.T, name string, f impl.Field, call func()) {
	t.Helper()
	room := f.Rings[:cap(f.Rings)]
	before := clonedField(impl.Field{Rings: room}).Rings
	lists := [][]int64{f.Data}
	for _, r := range room {
		lists = append(lists, r.Words)
	}
	checkLeaves(t, name, call, lists...)
	if !slices.EqualFunc(room, before, sameRing) {
		t.Errorf("%s has made %v of %v", name, room, before)
	}
}

func checkFieldOk(t *testing.T, p impl.Plan, f impl.Field, want bool) {
	t.Helper()
	checkFieldLeaves(t, "FieldOk", f, func() {
		if got := impl.FieldOk(p, f); got != want {
			t.Errorf("FieldOk(%v, %v) is %v, not %v", p, f, got, want)
		}
	})
}

// checkHolds writes all over the answer, to the end of the room behind it, and
// looks whether any of that is in the field.
func checkHolds(t *testing.T, p impl.Plan, f impl.Field, want []int64) {
	t.Helper()
	checkFieldLeaves(t, "HoldsOf", f, func() {
		got := impl.HoldsOf(p, f)
		if !slices.Equal(got, want) {
			t.Errorf("HoldsOf(%v, %v) is %v, not %v", p, f, got, want)
		}
		room := got[:cap(got)]
		for i := range room {
			room[i] = -5
		}
	})
}

func checkWhole(t *testing.T, p impl.Plan, f impl.Field, want bool) {
	t.Helper()
	checkFieldLeaves(t, "WholeIn", f, func() {
		if got := impl.WholeIn(p, f); got != want {
			t.Errorf("WholeIn(%v, %v) is %v, not %v", p, f, got, want)
		}
	})
}

// checkField asks of a right field all that can be told of it.
func checkField(t *testing.T, p impl.Plan, f impl.Field, holds []int64, whole bool) {
	t.Helper()
	checkFieldOk(t, p, f, true)
	checkHolds(t, p, f, holds)
	checkWhole(t, p, f, whole)
}

func checkNoField(t *testing.T, p impl.Plan, f impl.Field) {
	t.Helper()
	checkFieldOk(t, p, f, false)
	checkHolds(t, p, f, nil)
	checkWhole(t, p, f, false)
}

func TestWrittenFields(t *testing.T) {
	for _, c := range writtenFields() {
		for tasks := int64(1); tasks <= c.size; tasks++ {
			p := impl.Plan{Size: c.size, Tasks: tasks}
			checkField(t, p, withWords(p, c.free, c.taken), c.holds, c.whole)
		}
	}
}

// TestNewField holds promise 11, with the rings that were worked out by hand too.
func TestNewField(t *testing.T) {
	for _, c := range writtenRings() {
		for tasks := int64(1); tasks <= c.size; tasks++ {
			p := impl.Plan{Size: c.size, Tasks: tasks}
			f := impl.NewField(p)
			if len(f.Rings) != 2 || !slices.Equal(f.Data, make([]int64, c.size)) {
				t.Fatalf("NewField(%v) is %v", p, f)
			}
			checkRing(t, p, "the first one of NewField", f.Rings[0], c.full)
			checkRing(t, p, "the first one of NewField", f.Rings[0], impl.FullRing(p))
			checkRing(t, p, "the second one of NewField", f.Rings[1], c.new)
			checkRing(t, p, "the second one of NewField", f.Rings[1], impl.NewRing(p))
			checkField(t, p, f, nil, true)
		}
	}
}

// TestNoNewField asks for the zero Field.
func TestNoNewField(t *testing.T) {
	for _, p := range moreWrongPlans() {
		if f := impl.NewField(p); len(f.Rings) != 0 || len(f.Data) != 0 {
			t.Errorf("NewField(%v) is %v", p, f)
		}
	}
}

// TestNewFieldSharesNothing writes another number all over each list of some
// answers, to the end of the room behind it, and looks whether it is still there.
func TestNewFieldSharesNothing(t *testing.T) {
	for _, p := range rightPlans() {
		ahead := impl.NewField(p)
		var rooms [][]int64
		for range 2 {
			f := impl.NewField(p)
			for _, list := range [][]int64{f.Rings[0].Words, f.Rings[1].Words, f.Data} {
				rooms = append(rooms, list[:cap(list)])
			}
			ringRoom := f.Rings[:cap(f.Rings)]
			for i := range ringRoom {
				ringRoom[i] = impl.Ring{}
			}
		}
		for n, room := range rooms {
			for i := range room {
				room[i] = -5 - int64(n)
			}
		}
		for n, room := range rooms {
			if slices.ContainsFunc(room, func(number int64) bool { return number != -5-int64(n) }) {
				t.Errorf("%v: list %d of NewField has another one's numbers in it: %v", p, n, room)
			}
		}
		checkNew := func(f impl.Field) {
			checkRing(t, p, "the first one of NewField", f.Rings[0], impl.FullRing(p))
			checkRing(t, p, "the second one of NewField", f.Rings[1], impl.NewRing(p))
			checkField(t, p, f, nil, true)
		}
		checkNew(ahead)
		checkNew(impl.NewField(p))
	}
}

// TestHoldsShareNothing writes all over one answer and looks at the other one.
func TestHoldsShareNothing(t *testing.T) {
	for _, p := range rightPlans() {
		f := takenField(p)
		other := impl.HoldsOf(p, f)
		checkHolds(t, p, f, dataOf(p))
		if !slices.Equal(other, dataOf(p)) {
			t.Errorf("%v: what is written into HoldsOf is in %v", p, other)
		}
		for place := range f.Data {
			f.Data[place] = 3
		}
		if !slices.Equal(other, dataOf(p)) {
			t.Errorf("%v: what is written into the Data is in %v", p, other)
		}
	}
}

// ringLists are of two, of right rings of all kinds.
func ringLists(p impl.Plan) [][]impl.Ring {
	kinds := []impl.Ring{impl.NewRing(p), impl.FullRing(p), plainRing(p)}
	last := impl.FullRing(p)
	last.Words[0], last.Head, last.Tail, last.Left = greatestWord(p), maxTicket, 0, -maxLook
	var lists [][]impl.Ring
	for _, a := range append(kinds, last) {
		for _, b := range append(kinds, last) {
			lists = append(lists, []impl.Ring{cloned(a), cloned(b)})
		}
	}
	return lists
}

// TestFieldsOfRightRings: no rule tells what is in which of the two.
func TestFieldsOfRightRings(t *testing.T) {
	for _, p := range rightPlans() {
		for _, rings := range ringLists(p) {
			checkFieldOk(t, p, impl.Field{Rings: rings, Data: dataOf(p)}, true)
			same := impl.Field{Rings: []impl.Ring{rings[0], rings[0]}, Data: dataOf(p)}
			checkFieldOk(t, p, same, true) // and they may be one and the same
		}
	}
}

// TestFieldsOfNotTwoRings has none, one, three and more of them, with right ones
// in the room behind these, too.
func TestFieldsOfNotTwoRings(t *testing.T) {
	for _, p := range rightPlans() {
		for _, base := range []impl.Field{takenField(p), freeField(p)} {
			for _, more := range []impl.Ring{impl.NewRing(p), impl.FullRing(p), {}} {
				four := append(slices.Clone(base.Rings), more, more)
				for n := range len(four) + 1 {
					f := impl.Field{Rings: four[:n], Data: base.Data}
					tight := impl.Field{Rings: slices.Clip(slices.Clone(four[:n])), Data: base.Data}
					if n == 2 {
						checkFieldOk(t, p, f, true)
						checkFieldOk(t, p, tight, true)
						continue
					}
					checkNoField(t, p, f)
					checkNoField(t, p, tight)
				}
			}
			checkNoField(t, p, impl.Field{Data: base.Data})
			checkNoField(t, p, impl.Field{Rings: []impl.Ring{}, Data: base.Data})
			checkNoField(t, p, impl.Field{Rings: make([]impl.Ring, 2), Data: base.Data})
		}
		checkNoField(t, p, impl.Field{})
	}
}

// checkNoFieldWith has that ring as the first one and as the second one, beside
// one with which it would be whole, and as both.
func checkNoFieldWith(t *testing.T, p impl.Plan, r impl.Ring) {
	t.Helper()
	for _, other := range []impl.Ring{impl.NewRing(p), impl.FullRing(p)} {
		checkNoField(t, p, impl.Field{Rings: []impl.Ring{r, other}, Data: dataOf(p)})
		checkNoField(t, p, impl.Field{Rings: []impl.Ring{other, r}, Data: dataOf(p)})
	}
	checkNoField(t, p, impl.Field{Rings: []impl.Ring{r, r}, Data: dataOf(p)})
}

func TestFieldsOfBadRings(t *testing.T) {
	for _, p := range rightPlans() {
		for _, r := range append(badRings(p), impl.Ring{}) {
			checkNoFieldWith(t, p, r)
		}
	}
}

// TestFieldsOfAnotherSize has rings, and Data, that are right of another plan.
func TestFieldsOfAnotherSize(t *testing.T) {
	for _, p := range rightPlans() {
		for _, c := range writtenRings() {
			q := impl.Plan{Size: c.size, Tasks: 1}
			if c.size == p.Size {
				continue
			}
			checkNoFieldWith(t, p, c.new)
			checkNoFieldWith(t, p, c.full)
			for _, f := range []impl.Field{takenField(q), freeField(q), impl.NewField(q)} {
				checkNoField(t, p, f)
				f.Data = dataOf(p)
				checkNoField(t, p, f)
			}
			checkNoField(t, p, impl.Field{Rings: takenField(p).Rings, Data: dataOf(q)})
			checkNoField(t, p, impl.Field{Rings: freeField(p).Rings, Data: dataOf(q)})
		}
	}
}

// TestFieldsOfTooFewAndTooMany has Data cut out of a longer list, and such as
// end where they end.
func TestFieldsOfTooFewAndTooMany(t *testing.T) {
	for _, p := range rightPlans() {
		long := slices.Concat(dataOf(p), dataOf(p), dataOf(p))
		for _, f := range []impl.Field{takenField(p), freeField(p)} {
			for n := range int64(len(long)) + 1 {
				for _, data := range [][]int64{long[:n], slices.Clip(slices.Clone(long[:n])), make([]int64, n)} {
					f.Data = data
					if n == p.Size {
						checkFieldOk(t, p, f, true)
						checkWhole(t, p, f, true)
					} else {
						checkNoField(t, p, f)
					}
				}
			}
			f.Data = nil
			checkNoField(t, p, f)
		}
	}
}

// TestFieldsOfValues has one Value at each place in turn, whether something lies
// there or not.
func TestFieldsOfValues(t *testing.T) {
	for _, p := range rightPlans() {
		for place := range p.Size {
			for _, value := range []int64{0, 1, 2, maxValue / 2, maxValue - 1, maxValue} {
				full, empty, data := takenField(p), freeField(p), dataOf(p)
				full.Data[place], empty.Data[place], data[place] = value, value, value
				checkField(t, p, full, data, true)
				checkField(t, p, empty, nil, true)
			}
			for _, value := range []int64{
				-1, maxValue + 1, -2, maxValue + 2, -maxValue, 1 << 32, -1 << 32, 1<<32 + 1, 1 << 62,
				math.MaxInt64, math.MaxInt64 - 1, math.MinInt64, math.MinInt64 + 1,
			} {
				full, empty := takenField(p), freeField(p)
				full.Data[place], empty.Data[place] = value, value
				checkNoField(t, p, full)
				checkNoField(t, p, empty)
			}
		}
		f := takenField(p)
		for _, value := range []int64{0, maxValue} {
			f.Data = slices.Repeat([]int64{value}, int(p.Size))
			checkField(t, p, f, f.Data, true)
		}
	}
}

func TestFieldsOfWrongPlans(t *testing.T) {
	fields := []impl.Field{
		{}, {Rings: []impl.Ring{}, Data: []int64{}}, {Rings: make([]impl.Ring, 2)}, {Data: []int64{0}},
		{Rings: make([]impl.Ring, 2), Data: make([]int64, 4)}, {Rings: []impl.Ring{{Words: []int64{math.MinInt64}}}, Data: []int64{math.MinInt64}},
	}
	for _, c := range rightSizes() {
		q := impl.Plan{Size: c.size, Tasks: 1}
		fields = append(fields, takenField(q), freeField(q), impl.NewField(q))
	}
	for size := range int64(17) {
		// as long as it would be, if that were a Size
		rings := []impl.Ring{{Words: make([]int64, 2*size)}, {Words: make([]int64, 2*size)}}
		fields = append(fields, impl.Field{Rings: rings, Data: make([]int64, size)})
	}
	for _, p := range moreWrongPlans() {
		for _, f := range fields {
			checkNoField(t, p, f)
		}
	}
}

// freeEntries are such of all places, of many cycles, Safe and not.
func freeEntries(p impl.Plan) []impl.Entry {
	entries := make([]impl.Entry, 2*p.Size)
	for place := range entries {
		entries[place] = impl.Entry{Cycle: []int64{0, 3, maxCycle, 1}[place%4], Safe: place%3 != 0, Index: 2*p.Size - 1}
	}
	return entries
}

// withItems has these at random places of the ring, and of cycles that are near
// to each other or far apart, and all other places free.
func withItems(chance *rand.Rand, p impl.Plan, indexes []int64) []impl.Entry {
	entries := freeEntries(p)
	cycle, span := chance.Int64N(maxCycle-5), 1+chance.Int64N(4)
	for n, place := range chance.Perm(len(entries))[:len(indexes)] {
		entries[place] = impl.Entry{Cycle: cycle + chance.Int64N(span), Safe: chance.IntN(2) == 0, Index: indexes[n]}
		if chance.IntN(8) == 0 {
			entries[place].Cycle = chance.Int64N(2) * maxCycle
		}
	}
	return entries
}

func fieldOf(p impl.Plan, free, taken []impl.Entry) impl.Field {
	return impl.Field{Rings: []impl.Ring{ringOf(p, free), ringOf(p, taken)}, Data: dataOf(p)}
}

// heldIn reckons what lies at the items of the second ring, by their tickets.
func heldIn(p impl.Plan, taken []impl.Entry) []int64 {
	var holds []int64
	for _, it := range itemsIn(p, taken) {
		if it.index >= p.Size {
			return nil
		}
		holds = append(holds, 70+it.index)
	}
	return holds
}

// someIndexes are of places, and any of them may be there many times.
func someIndexes(chance *rand.Rand, p impl.Plan) []int64 {
	indexes := make([]int64, chance.Int64N(2*p.Size+1))
	for i := range indexes {
		indexes[i] = chance.Int64N(p.Size)
	}
	return indexes
}

// TestHoldsOfSomeFields: what is in the first ring has no part in it, nor how
// often something is in the second one.
func TestHoldsOfSomeFields(t *testing.T) {
	for _, p := range rightPlans() {
		chance := rand.New(rand.NewPCG(11, uint64(p.Size*8+p.Tasks)))
		for range 300 {
			a, b := someIndexes(chance, p), someIndexes(chance, p)
			free, taken := withItems(chance, p, a), withItems(chance, p, b)
			whole := slices.Equal(slices.Sorted(slices.Values(append(a, b...))), upTo(p.Size))
			checkField(t, p, fieldOf(p, free, taken), heldIn(p, taken), whole)
		}
	}
}

// TestHoldsInTheOrderOfTickets has all places taken, in an order of their own,
// while the tickets go round: the first ones are of an earlier cycle.
func TestHoldsInTheOrderOfTickets(t *testing.T) {
	for _, p := range rightPlans() {
		slots, js := 2*p.Size, jsOf(p)
		for first := range 3 * slots {
			taken, holds := freeEntries(p), []int64{}
			for n := range p.Size {
				ticket, index := first+n, (5*n+first)%p.Size
				place := slices.Index(js, ticket%slots)
				taken[place] = impl.Entry{Cycle: ticket / slots, Safe: n%2 == 0, Index: index}
				holds = append(holds, 70+index)
			}
			checkField(t, p, fieldOf(p, freeEntries(p), taken), holds, true)
		}
	}
}

// moved has one number got out of the one ring and put into the other one.
func moved(t *testing.T, p impl.Plan, f impl.Field, from, to int) impl.Field {
	t.Helper()
	index := impl.ItemsOf(p, f.Rings[from])[0]
	got := checkGetAlone(t, p, f.Rings[from], waysMet{})
	put := checkPutAlone(t, p, f.Rings[to], index, waysMet{})
	rings := make([]impl.Ring, 2)
	rings[from], rings[to] = got, put
	return impl.Field{Rings: rings, Data: slices.Clone(f.Data)}
}

// TestHoldsOfFieldsMovedOn fills and empties a new field by turns, until the
// tickets have gone round a few times: it is whole and holds what was laid there.
func TestHoldsOfFieldsMovedOn(t *testing.T) {
	for _, p := range rightPlans() {
		chance, f, holds, value := rand.New(rand.NewPCG(11, uint64(p.Size))), impl.NewField(p), []int64{}, int64(0)
		for range 24 * p.Size {
			held := int64(len(holds))
			if held < p.Size && (held == 0 || chance.IntN(2) == 0) {
				value++
				f.Data[impl.ItemsOf(p, f.Rings[0])[0]] = value
				f = moved(t, p, f, 0, 1)
				holds = append(holds, value)
			} else {
				f = moved(t, p, f, 1, 0)
				holds = holds[1:]
			}
			checkField(t, p, f, holds, true)
		}
		if f.Rings[0].Head <= 6*p.Size || f.Rings[1].Tail <= 6*p.Size {
			t.Errorf("%v: the tickets of %v have not gone round", p, f)
		}
	}
}

// noPlaces are Indexes that an entry may have, but no place has.
func noPlaces(p impl.Plan) []int64 {
	var list []int64
	for index := p.Size; index < 2*p.Size-1; index++ {
		list = append(list, index)
	}
	return list
}

// inOrder has these in a ring with the tickets that follow each other from first on.
func inOrder(p impl.Plan, first int64, indexes []int64) []impl.Entry {
	slots, js, entries := 2*p.Size, jsOf(p), freeEntries(p)
	for n, index := range indexes {
		ticket := first + int64(n)
		entries[slices.Index(js, ticket%slots)] = impl.Entry{Cycle: ticket / slots, Safe: true, Index: index}
	}
	return entries
}

// TestFieldsWithNoPlace has one that is none ahead of, between and behind all
// places, and instead of one of them, in either ring, while the tickets go round.
func TestFieldsWithNoPlace(t *testing.T) {
	for _, p := range rightPlans() {
		for _, no := range noPlaces(p) {
			for at := range p.Size + 1 {
				first := 3*p.Size + at
				more := inOrder(p, first, slices.Insert(upTo(p.Size), int(at), no))
				checkField(t, p, fieldOf(p, freeEntries(p), more), nil, false)
				checkField(t, p, fieldOf(p, more, freeEntries(p)), nil, false)
				alone := inOrder(p, first, []int64{no})
				checkField(t, p, fieldOf(p, inOrder(p, first, upTo(p.Size)), alone), nil, false)
				checkField(t, p, fieldOf(p, alone, inOrder(p, first, upTo(p.Size))), dataOf(p), false)
				if at == p.Size {
					continue
				}
				instead := upTo(p.Size)
				instead[at] = no
				checkField(t, p, fieldOf(p, freeEntries(p), inOrder(p, first, instead)), nil, false)
				checkField(t, p, fieldOf(p, inOrder(p, first, instead), freeEntries(p)), nil, false)
				checkField(t, p, fieldOf(p, inOrder(p, first, []int64{at}), inOrder(p, first, instead)), nil, false)
				checkField(t, p, fieldOf(p, inOrder(p, first, instead), inOrder(p, first, []int64{at})), []int64{70 + at}, false)
			}
		}
	}
}

// TestWholeFields parts the places between both rings in each way there is.
func TestWholeFields(t *testing.T) {
	for _, p := range rightPlans() {
		chance := rand.New(rand.NewPCG(11, uint64(p.Size*8+p.Tasks)))
		for parts := range int64(1) << p.Size {
			var a, b []int64
			for _, n := range chance.Perm(int(p.Size)) {
				if parts>>n&1 == 0 {
					a = append(a, int64(n))
				} else {
					b = append(b, int64(n))
				}
			}
			free, taken := withItems(chance, p, a), withItems(chance, p, b)
			checkField(t, p, fieldOf(p, free, taken), heldIn(p, taken), true)
			checkField(t, p, fieldOf(p, taken, free), heldIn(p, free), true)
		}
	}
}

// checkPartedField parts the numbers between both rings at each place in turn.
func checkPartedField(t *testing.T, p impl.Plan, all []int64, whole bool) {
	t.Helper()
	for i := range len(all) + 1 {
		free, taken := inOrder(p, 2*p.Size, all[:i]), inOrder(p, 5*p.Size, all[i:])
		checkField(t, p, fieldOf(p, free, taken), heldIn(p, taken), whole)
	}
}

// TestFieldsThatAreNotWhole has one number missing, or one of them once more: in
// the one ring, in the other one, in both.
func TestFieldsThatAreNotWhole(t *testing.T) {
	for _, p := range rightPlans() {
		checkPartedField(t, p, upTo(p.Size), true)
		checkPartedField(t, p, nil, false)
		for n := range p.Size {
			checkPartedField(t, p, slices.Delete(upTo(p.Size), int(n), int(n)+1), false)
			checkPartedField(t, p, append(upTo(p.Size), n), false)
			checkPartedField(t, p, slices.Insert(upTo(p.Size), 0, n), false)
			for other := range p.Size {
				all := upTo(p.Size)
				all[n] = other // which is there twice then, and n is missing
				checkPartedField(t, p, all, other == n)
			}
		}
		all := inOrder(p, 2*p.Size, upTo(p.Size))
		checkField(t, p, fieldOf(p, all, all), dataOf(p), false)
	}
}

// TestFieldsLeaveTheRoomBehind has numbers and rings behind the lists that a
// careless append would write over.
func TestFieldsLeaveTheRoomBehind(t *testing.T) {
	for _, p := range rightPlans() {
		for behind := range 4 {
			rest := []int64{-7, 5, math.MaxInt64, -9}[:behind]
			longer := func(list []int64) []int64 { return slices.Concat(list, rest)[:len(list)] }
			for n, base := range []impl.Field{takenField(p), freeField(p)} {
				holds := [][]int64{dataOf(p), nil}[n]
				rings := make([]impl.Ring, 0, 2+behind)
				for _, r := range base.Rings {
					r.Words = longer(r.Words)
					rings = append(rings, r)
				}
				for _, n := range rest {
					rings = append(rings, impl.Ring{Words: []int64{n, n}, Head: n, Tail: n, Left: n})
				}
				f := impl.Field{Rings: rings[:2], Data: longer(base.Data)}
				checkField(t, p, f, holds, true)
				f.Rings = rings[:1]
				checkNoField(t, p, f)
			}
		}
	}
}
