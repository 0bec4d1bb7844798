package tests

import (
	"math"
	"testing"

	"loop.example/g00738/impl"
)

// maxCycle is written out, so that another limit in the program is seen here.
const maxCycle = 1000000

func rightPlans() []impl.Plan {
	var list []impl.Plan
	for _, c := range rightSizes() {
		for tasks := int64(1); tasks <= c.size; tasks++ {
			list = append(list, impl.Plan{Size: c.size, Tasks: tasks})
		}
	}
	return list
}

func wrongPlans() []impl.Plan {
	return []impl.Plan{
		{},
		{Size: 4}, {Size: 4, Tasks: -1}, {Size: 4, Tasks: 5}, {Size: 1, Tasks: 2}, {Size: 8, Tasks: 9},
		{Tasks: 1}, {Size: 3, Tasks: 1}, {Size: 5, Tasks: 1}, {Size: 16, Tasks: 1}, {Size: -4, Tasks: 1}, {Size: -4, Tasks: -4},
		{Size: 4, Tasks: math.MaxInt64}, {Size: 4, Tasks: math.MinInt64},
		{Size: math.MaxInt64, Tasks: 1}, {Size: math.MinInt64, Tasks: 1},
		{Size: math.MaxInt64, Tasks: math.MaxInt64}, {Size: math.MinInt64, Tasks: math.MinInt64},
		{Size: 1 << 62, Tasks: 1}, {Size: math.MinInt64 + 4, Tasks: 1},
	}
}

// greatestWord is told without a shift: every part of it as great as may be.
func greatestWord(p impl.Plan) int64 {
	slots := 2 * p.Size
	return maxCycle*2*slots + slots + slots - 1
}

func checkEntry(t *testing.T, p impl.Plan, e impl.Entry, word int64) {
	t.Helper()
	if !impl.EntryOk(p, e) {
		t.Errorf("EntryOk(%v, %v) is false", p, e)
	}
	if got := impl.WordOf(p, e); got != word {
		t.Errorf("WordOf(%v, %v) is %d, not %d", p, e, got, word)
	}
	if got, is := impl.EntryOf(p, word); !is || got != e {
		t.Errorf("EntryOf(%v, %d) is %v, %v, not %v", p, word, got, is, e)
	}
}

func checkNoEntry(t *testing.T, p impl.Plan, e impl.Entry) {
	t.Helper()
	if impl.EntryOk(p, e) {
		t.Errorf("EntryOk(%v, %v) is true", p, e)
	}
	if got := impl.WordOf(p, e); got != -1 {
		t.Errorf("WordOf(%v, %v) is %d, not -1", p, e, got)
	}
}

func checkNoWord(t *testing.T, p impl.Plan, word int64) {
	t.Helper()
	if got, is := impl.EntryOf(p, word); is || got != (impl.Entry{}) {
		t.Errorf("EntryOf(%v, %d) is %v, %v", p, word, got, is)
	}
}

// TestWrittenWords has its numbers worked out by hand, so that it stands beside
// the tests below, which reckon.
func TestWrittenWords(t *testing.T) {
	for _, c := range []struct {
		size int64
		e    impl.Entry
		word int64
	}{
		{1, impl.Entry{}, 0},
		{1, impl.Entry{Index: 1}, 1},
		{1, impl.Entry{Safe: true}, 2},
		{1, impl.Entry{Safe: true, Index: 1}, 3},
		{1, impl.Entry{Cycle: 1}, 4},
		{1, impl.Entry{Cycle: 1000000, Safe: true, Index: 1}, 4000003},
		{2, impl.Entry{Safe: true, Index: 3}, 7},
		{2, impl.Entry{Cycle: 3, Index: 2}, 26},
		{2, impl.Entry{Cycle: 1000000, Safe: true, Index: 3}, 8000007},
		{4, impl.Entry{Safe: true, Index: 7}, 15},
		{4, impl.Entry{Cycle: 2, Safe: true, Index: 5}, 45},
		{4, impl.Entry{Cycle: 1000000, Safe: true, Index: 7}, 16000015},
		{8, impl.Entry{Safe: true, Index: 15}, 31},
		{8, impl.Entry{Cycle: 7, Index: 9}, 233},
		{8, impl.Entry{Cycle: 1000000, Index: 15}, 32000015},
		{8, impl.Entry{Cycle: 1000000, Safe: true, Index: 15}, 32000031},
	} {
		for tasks := int64(1); tasks <= c.size; tasks++ {
			checkEntry(t, impl.Plan{Size: c.size, Tasks: tasks}, c.e, c.word)
		}
	}
}

// TestEntriesOfWords holds promise 2 where the document names an edge, and
// between the edges.
func TestEntriesOfWords(t *testing.T) {
	for _, p := range rightPlans() {
		slots := 2 * p.Size
		for _, cycle := range []int64{0, 1, 2, 3, 77, 65536, maxCycle / 2, maxCycle - 1, maxCycle} {
			for index := int64(0); index < slots; index++ {
				word := cycle*2*slots + index
				checkEntry(t, p, impl.Entry{Cycle: cycle, Index: index}, word)
				checkEntry(t, p, impl.Entry{Cycle: cycle, Safe: true, Index: index}, word+slots)
			}
		}
	}
}

func TestWordsOfEntries(t *testing.T) {
	for _, p := range rightPlans() {
		words := []int64{greatestWord(p) - 1, greatestWord(p)}
		for word := int64(0); word <= 700; word++ {
			words = append(words, word)
		}
		seen := map[impl.Entry]int64{}
		for _, word := range words {
			e, is := impl.EntryOf(p, word)
			if !is {
				t.Errorf("EntryOf(%v, %d) is false", p, word)
			}
			checkEntry(t, p, e, word)
			if other, twice := seen[e]; twice {
				t.Errorf("%v: the words %d and %d are both of %v", p, other, word, e)
			}
			seen[e] = word
		}
	}
}

func TestGreatestWord(t *testing.T) {
	for _, p := range rightPlans() {
		e := impl.Entry{Cycle: maxCycle, Safe: true, Index: 2*p.Size - 1}
		checkEntry(t, p, e, greatestWord(p))
	}
}

func TestNoEntries(t *testing.T) {
	for _, p := range rightPlans() {
		slots := 2 * p.Size
		// the last ones, shifted, wrap around to the word of another Entry
		cycles := []int64{-1, maxCycle + 1, math.MaxInt64, math.MinInt64, 1 << 62, 1 << 60, math.MinInt64 + 1}
		indexes := []int64{-1, slots, math.MaxInt64, math.MinInt64, slots + 1, 2 * slots, -slots, math.MinInt64 + 1}
		for _, safe := range []bool{false, true} {
			for _, cycle := range cycles {
				for _, index := range []int64{0, 1, slots - 1} {
					checkNoEntry(t, p, impl.Entry{Cycle: cycle, Safe: safe, Index: index})
				}
			}
			for _, index := range indexes {
				for _, cycle := range []int64{0, 1, maxCycle} {
					checkNoEntry(t, p, impl.Entry{Cycle: cycle, Safe: safe, Index: index})
				}
				for _, cycle := range cycles {
					checkNoEntry(t, p, impl.Entry{Cycle: cycle, Safe: safe, Index: index})
				}
			}
		}
	}
}

func TestNoWords(t *testing.T) {
	for _, p := range rightPlans() {
		for _, word := range []int64{
			-1, -2, -2 * p.Size, -4 * p.Size, -greatestWord(p),
			greatestWord(p) + 1, greatestWord(p) + 2, 2 * greatestWord(p), 1 << 62,
			math.MaxInt64, math.MaxInt64 - 1, math.MinInt64, math.MinInt64 + 1,
		} {
			checkNoWord(t, p, word)
		}
	}
}

func TestWordsOfWrongPlans(t *testing.T) {
	for _, p := range wrongPlans() {
		checkNoEntry(t, p, impl.Entry{})
		checkNoEntry(t, p, impl.Entry{Safe: true})
		checkNoEntry(t, p, impl.Entry{Cycle: 1, Safe: true, Index: 1})
		checkNoEntry(t, p, impl.Entry{Cycle: -1, Index: -1})
		checkNoEntry(t, p, impl.Entry{Cycle: math.MaxInt64, Safe: true, Index: math.MaxInt64})
		checkNoEntry(t, p, impl.Entry{Cycle: math.MinInt64, Index: math.MinInt64})
		for _, word := range []int64{0, 1, 2, 15, 45, -1, math.MaxInt64, math.MinInt64} {
			checkNoWord(t, p, word)
		}
		if got := impl.NoneOf(p); got != -1 {
			t.Errorf("NoneOf(%v) is %d, not -1", p, got)
		}
	}
}

func TestNone(t *testing.T) {
	want := map[int64]int64{1: 1, 2: 3, 4: 7, 8: 15}
	for _, p := range rightPlans() {
		none := impl.NoneOf(p)
		if none != want[p.Size] {
			t.Errorf("NoneOf(%v) is %d, not %d", p, none, want[p.Size])
		}
		if !impl.EntryOk(p, impl.Entry{Index: none}) || impl.EntryOk(p, impl.Entry{Index: none + 1}) {
			t.Errorf("NoneOf(%v) is %d, which is not the greatest Index", p, none)
		}
	}
}
