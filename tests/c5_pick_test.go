package tests

import (
	"slices"
	"testing"

	"loop.example/measuredsorts/impl"
)

// ascending returns the numbers from 0 up to n-1.
func ascending(n int) []int {
	var numbers []int
	for i := range n {
		numbers = append(numbers, i)
	}
	return numbers
}

func TestWorkedMerging(t *testing.T) {
	for _, w := range []struct {
		a, b []int
		effort
	}{
		{nil, nil, effort{0, 0}}, {[]int{1}, nil, effort{0, 1}}, {nil, []int{1}, effort{0, 1}}, {ascending(8), nil, effort{0, 8}}, {nil, ascending(8), effort{0, 8}},
		{[]int{1}, []int{2}, effort{1, 2}}, {[]int{2}, []int{1}, effort{1, 2}}, {[]int{1}, []int{1}, effort{1, 2}},
		{[]int{1, 2}, []int{3, 4}, effort{2, 4}}, {[]int{3, 4}, []int{1, 2}, effort{2, 4}}, {[]int{1, 3}, []int{2, 4}, effort{3, 4}},
		{[]int{1, 1}, []int{1}, effort{2, 3}}, {[]int{1}, []int{1, 1}, effort{1, 3}}, // of equal keys those of a are put first
		{[]int{1, 3, 3}, []int{2, 3}, effort{4, 5}}, {[]int{2, 3}, []int{1, 3, 3}, effort{3, 5}},
		{[]int{0, 2, 4, 6}, []int{1, 3, 5, 7}, effort{7, 8}}, {[]int{99}, []int{-99, -98, -97, -96, -95, -94, -93}, effort{7, 8}},
	} {
		checkWork(t, "MergeKeys", slices.Concat(w.a, w.b), impl.MergeKeys(w.a, w.b), w.effort)
	}
}

func TestMergeOrders(t *testing.T) {
	for m := range impl.MaxKeys + 1 {
		for k := range impl.MaxKeys + 1 {
			if got, want := impl.MergeOrders(m, k), waysToMerge(m, k); got != want {
				t.Errorf("MergeOrders(%d, %d) = %d, not %d", m, k, got, want)
			}
		}
	}
	for _, m := range []int{-1 << 63, -2, -1, impl.MaxKeys + 1, impl.MaxKeys + 2, 1000, 1<<63 - 1} {
		for _, k := range []int{-1 << 63, -1, 0, 1, impl.MaxKeys, impl.MaxKeys + 1, 1<<63 - 1, -m} {
			if impl.MergeOrders(m, k) != -1 || impl.MergeOrders(k, m) != -1 {
				t.Errorf("MergeOrders of %d and %d = %d, %d", m, k, impl.MergeOrders(m, k), impl.MergeOrders(k, m))
			}
		}
	}
}

func TestWorkedSearches(t *testing.T) {
	for _, w := range []struct {
		keys            []int
		x               int
		first, asked    int
		last, askedLast int
	}{
		{nil, 0, 0, 0, 0, 0}, {nil, -1 << 63, 0, 0, 0, 0}, {[]int{5}, 4, 0, 1, 0, 1}, {[]int{5}, 5, 0, 1, 1, 1}, {[]int{5}, 6, 1, 1, 1, 1},
		{[]int{5, 6}, 5, 0, 2, 1, 2}, {[]int{5, 6}, 6, 1, 2, 2, 1}, {[]int{5, 6}, 4, 0, 2, 0, 2}, {[]int{5, 6}, 7, 2, 1, 2, 1},
		{[]int{1, 3, 3, 5}, 3, 1, 3, 3, 2}, {[]int{1, 3, 3, 5}, 0, 0, 3, 0, 3}, {[]int{1, 3, 3, 5}, 6, 4, 2, 4, 2}, {[]int{1, 3, 3, 5}, 4, 3, 2, 3, 2},
		{ascending(8), -100, 0, 4, 0, 4}, {ascending(8), 0, 0, 4, 1, 4}, {ascending(8), 7, 7, 3, 8, 3}, {ascending(8), 1<<63 - 1, 8, 3, 8, 3},
		{make([]int, 8), 0, 0, 4, 8, 3}, {ascending(7), 3, 3, 3, 4, 3}, {ascending(7), 7, 7, 3, 7, 3},
	} {
		if place, asked := impl.FirstAt(w.keys, w.x); place != w.first || asked != w.asked {
			t.Errorf("FirstAt(%v, %d) = %d, %d, not %d, %d", w.keys, w.x, place, asked, w.first, w.asked)
		}
		if place, asked := impl.LastAt(w.keys, w.x); place != w.last || asked != w.askedLast {
			t.Errorf("LastAt(%v, %d) = %d, %d, not %d, %d", w.keys, w.x, place, asked, w.last, w.askedLast)
		}
	}
}

func TestWorkedPicks(t *testing.T) {
	for _, w := range []struct {
		keys  []int
		asked []int // for the key at each place
	}{
		{nil, nil}, {[]int{7}, []int{0}}, {[]int{1, 2}, []int{1, 1}}, {[]int{2, 1}, []int{1, 1}}, {[]int{2, 2}, []int{1, 1}},
		{[]int{2, 1, 3}, []int{2, 2, 2}}, {[]int{1, 2, 3}, []int{2, 3, 3}}, {[]int{3, 2, 1}, []int{3, 3, 2}}, {[]int{2, 2, 2}, []int{2, 3, 3}},
		{[]int{3, 1, 4, 2}, []int{4, 4, 3, 3}}, {ascending(8), []int{7, 13, 18, 22, 25, 27, 28, 28}}, {turned(ascending(8)), []int{28, 28, 27, 25, 22, 18, 13, 7}},
	} {
		for k, want := range w.asked {
			key, asked, ok := impl.PickKey(w.keys, k)
			if !ok || key != slices.Sorted(slices.Values(w.keys))[k] || asked != want {
				t.Errorf("PickKey(%v, %d) = %d, %d, %v, and should ask %d times", w.keys, k, key, asked, ok, want)
			}
		}
	}
}

func TestWorkedCups(t *testing.T) {
	for _, w := range []struct {
		keys                []int
		winner              int
		beaten              []int
		second, asked, ends int
		least, greatest     int
	}{
		{[]int{7}, 0, nil, 0, 0, 0, 7, 7},
		{[]int{-7}, 0, nil, 0, 0, 0, -7, -7},
		{[]int{7, 7}, 0, []int{1}, 7, 1, 1, 7, 7},
		{[]int{2, 1}, 1, []int{0}, 2, 1, 1, 1, 2},
		{[]int{1, 2, 3}, 0, []int{1, 2}, 2, 3, 3, 1, 3},
		{[]int{2, 3, 1}, 2, []int{0}, 2, 2, 3, 1, 3},
		{[]int{1, 1, 1}, 0, []int{1, 2}, 1, 3, 3, 1, 1},
		{[]int{4, 2, 3, 1, 5}, 3, []int{2, 1, 4}, 2, 6, 6, 1, 5},
		{[]int{5, 4, 3, 2, 1}, 4, []int{3}, 2, 4, 6, 1, 5},
		{[]int{5, 4, 3, 2, 1, 0}, 5, []int{4, 3}, 1, 6, 7, 0, 5},
		{[]int{6, 5, 4, 3, 2, 1, 0}, 6, []int{5, 3}, 1, 7, 9, 0, 6},
		{[]int{0, 0, 0, 0, 0, 0, 0, 0}, 0, []int{1, 2, 4}, 0, 9, 10, 0, 0},
		{[]int{5, 3, 8, 1, 7, 2, 6, 4}, 3, []int{2, 1, 5}, 2, 9, 10, 1, 8},
		{[]int{-99, 99, -99, 99, -99, 99, -99, 99}, 0, []int{1, 2, 4}, -99, 9, 10, -99, 99},
	} {
		if winner, beaten := impl.CupOf(w.keys); winner != w.winner || !slices.Equal(beaten, w.beaten) {
			t.Errorf("CupOf(%v) = %d, %v, not %d, %v", w.keys, winner, beaten, w.winner, w.beaten)
		}
		if second, asked, ok := impl.SecondOf(w.keys); ok != (len(w.keys) > 1) || second != w.second || asked != w.asked {
			t.Errorf("SecondOf(%v) = %d, %d, %v, not %d, %d", w.keys, second, asked, ok, w.second, w.asked)
		}
		if least, greatest, asked := impl.EndsOf(w.keys); least != w.least || greatest != w.greatest || asked != w.ends {
			t.Errorf("EndsOf(%v) = %d, %d, %d, not %d, %d, %d", w.keys, least, greatest, asked, w.least, w.greatest, w.ends)
		}
	}
}

func TestCupsFollowTheirRules(t *testing.T) {
	for _, keys := range someKeys() {
		if len(keys) == 0 {
			continue
		}
		winner, beaten := impl.CupOf(keys)
		wantWinner, wantBeaten := cupModel(keys)
		holds(t, winner == wantWinner && slices.Equal(beaten, wantBeaten), keys, "the cup is that of its rule")
		_, _, asked := impl.EndsOf(keys)
		holds(t, asked == asksForEnds(len(keys)), keys, "both ends are asked for by their rule")
	}
}

func TestWorkedTables(t *testing.T) {
	rows := [][]int{{1, 4, 7}, {2, 5, 8}}
	for _, w := range []struct {
		rows [][]int
		x    int
		want finding
	}{
		{nil, 0, finding{-1, -1, 0, false}}, {[][]int{{}}, 0, finding{-1, -1, 0, false}}, {rowsWithout(8), 0, finding{-1, -1, 0, false}},
		{[][]int{{5}}, 5, finding{0, 0, 1, true}}, {[][]int{{5}}, 4, finding{-1, -1, 1, false}}, {[][]int{{5}}, 6, finding{-1, -1, 1, false}},
		{rows, 7, finding{0, 2, 1, true}}, {rows, 4, finding{0, 1, 2, true}}, {rows, 1, finding{0, 0, 3, true}}, {rows, 8, finding{1, 2, 2, true}},
		{rows, 5, finding{1, 1, 3, true}}, {rows, 2, finding{1, 0, 4, true}}, {rows, 0, finding{-1, -1, 3, false}}, {rows, 3, finding{-1, -1, 4, false}},
		{rows, 6, finding{-1, -1, 3, false}}, {rows, 9, finding{-1, -1, 2, false}}, {rows, -1 << 63, finding{-1, -1, 3, false}}, {rows, 1<<63 - 1, finding{-1, -1, 2, false}},
		{[][]int{{1, 1}, {1, 1}}, 1, finding{0, 1, 1, true}}, {[][]int{{0, 1, 1}, {1, 1, 1}}, 0, finding{0, 0, 3, true}}, {[][]int{{0, 0}, {0, 1}, {1, 1}}, 1, finding{1, 1, 2, true}},
		{[][]int{{1, 3}, {2, 4}, {3, 5}}, 2, finding{1, 0, 3, true}}, {[][]int{{1, 2, 3, 4, 5, 6, 7, 8}}, 1, finding{0, 0, 8, true}}, {cutInRows(ascending(8), 1), 7, finding{7, 0, 8, true}},
		{cutInRows(ascending(64), 8), 56, finding{7, 0, 15, true}}, {cutInRows(ascending(64), 8), 7, finding{0, 7, 1, true}}, {cutInRows(ascending(64), 8), 63, finding{7, 7, 8, true}},
	} {
		if got := find(w.rows, w.x); got != w.want {
			t.Errorf("FindInRows(%v, %d) = %v, not %v", w.rows, w.x, got, w.want)
		}
	}
	for x, want := range []int{0, 1, 2, 2, 3, 4, 4, 5, 6, 6} {
		if got := impl.CountInRows(rows, x); got != want {
			t.Errorf("CountInRows(%v, %d) = %d, not %d", rows, x, got, want)
		}
	}
	for n := range impl.MaxKeys + 1 {
		if got := impl.CountInRows(rowsWithout(n), 1<<63-1); got != 0 {
			t.Errorf("CountInRows of %d rows without keys = %d", n, got)
		}
	}
}

func TestFindingFollowsItsRule(t *testing.T) {
	for _, rows := range someTables() {
		for _, x := range numbersAround(slices.Concat(rows...)) {
			if got, want := find(rows, x), findModel(rows, x); got != want {
				t.Errorf("FindInRows(%v, %d) = %v, not %v", rows, x, got, want)
			}
		}
	}
}

func TestRowsAreTablesByTheirRule(t *testing.T) {
	for _, rows := range slices.Concat(fewRows(), someTables(), badTables()) {
		if got := impl.ValidRows(rows); got != isTable(rows) {
			t.Errorf("ValidRows(%v) = %v", rows, got)
		}
	}
}

func TestWorkedPicksOfTwo(t *testing.T) {
	for _, w := range []struct{ a, b, want []int }{
		{nil, nil, nil}, {[]int{5}, nil, []int{5}}, {nil, []int{5}, []int{5}}, {[]int{1, 5}, []int{2, 3}, []int{1, 2, 3, 5}},
		{[]int{1, 1}, []int{1}, []int{1, 1, 1}}, {[]int{3, 4}, []int{1, 2}, []int{1, 2, 3, 4}}, {ascending(8), ascending(8), []int{0, 0, 1, 1, 2, 2, 3, 3, 4, 4, 5, 5, 6, 6, 7, 7}},
		{[]int{-99}, []int{99, 99, 99, 99, 99, 99, 99, 99}, []int{-99, 99, 99, 99, 99, 99, 99, 99, 99}},
	} {
		var got []int
		for k := range len(w.a) + len(w.b) {
			key, ok := impl.PickOfTwo(w.a, w.b, k)
			if !ok {
				t.Errorf("PickOfTwo(%v, %v, %d) finds none", w.a, w.b, k)
			}
			got = append(got, key)
		}
		if !slices.Equal(got, w.want) {
			t.Errorf("PickOfTwo of %v and %v are %v, not %v", w.a, w.b, got, w.want)
		}
	}
}

func TestMergingOfInvalidKeys(t *testing.T) {
	for _, bad := range notSorted() {
		for _, good := range [][]int{nil, {0}, {-99, 99}} {
			for _, two := range []twoLists{{bad, good}, {good, bad}, {bad, bad}} {
				checkNoWork(t, "MergeKeys", impl.MergeKeys(two.a, two.b))
				for _, k := range indicesAround(len(two.all())) {
					key, ok := impl.PickOfTwo(two.a, two.b, k)
					holds(t, key == 0 && !ok, two.all(), "no key of invalid ones is picked")
				}
			}
		}
	}
}

func TestOneKeyTooManyIsNotMerged(t *testing.T) {
	for n := range impl.MaxKeys + 1 {
		for k := range impl.MaxKeys + 1 {
			w := impl.MergeKeys(make([]int, n), make([]int, k))
			if n+k > impl.MaxKeys {
				checkNoWork(t, "MergeKeys", w)
			} else {
				holds(t, len(w.Keys) == n+k && w.Moved == n+k, []int{n, k}, "at most MaxKeys keys together are merged")
			}
		}
	}
	for _, two := range longPairsOfLists() {
		checkNoWork(t, "MergeKeys", impl.MergeKeys(two.a, two.b))
	}
}

func TestSearchesOfInvalidKeys(t *testing.T) {
	for _, keys := range notSorted() {
		for _, x := range []int{-1 << 63, -100, -1, 0, 1, 2, 100, 1<<63 - 1} {
			first, asked := impl.FirstAt(keys, x)
			holds(t, first == -1 && asked == -1, keys, "no first place")
			last, asked := impl.LastAt(keys, x)
			holds(t, last == -1 && asked == -1, keys, "no last place")
		}
	}
}

func TestPicksOfInvalidKeys(t *testing.T) {
	for _, keys := range append(badKeys(), nil) {
		for _, k := range indicesAround(len(keys)) {
			key, asked, ok := impl.PickKey(keys, k)
			holds(t, key == 0 && asked == 0 && !ok, keys, "no key is picked")
		}
		winner, beaten := impl.CupOf(keys)
		holds(t, winner == -1 && len(beaten) == 0, keys, "no one wins a cup")
		second, asked, ok := impl.SecondOf(keys)
		holds(t, second == 0 && asked == 0 && !ok, keys, "no second one")
		least, greatest, asked := impl.EndsOf(keys)
		holds(t, least == 0 && greatest == 0 && asked == -1, keys, "no ends")
	}
}

func TestSearchesOfInvalidRows(t *testing.T) {
	for _, rows := range badTables() {
		for _, x := range []int{-1 << 63, -100, -1, 0, 1, 2, 5, 100, 1<<63 - 1} {
			holdsIn(t, find(rows, x) == finding{-1, -1, 0, false}, rows, x, "nothing is found, and nothing looked at")
			holdsIn(t, impl.CountInRows(rows, x) == -1, rows, x, "nothing is counted")
		}
	}
}

// flag returns 1 for true and 0 for false.
func flag(ok bool) int {
	if ok {
		return 1
	}
	return 0
}

// allPicks calls each function of chapter 5 that takes keys and returns all of the results.
func allPicks(a, b []int) [][]int {
	w := impl.MergeKeys(a, b)
	winner, beaten := impl.CupOf(a)
	counts := []int{w.Asked, w.Moved, winner}
	for k := -1; k <= len(a)+len(b); k++ {
		first, asked := impl.FirstAt(a, k)
		last, askedLast := impl.LastAt(a, k)
		key, askedPick, ok := impl.PickKey(a, k)
		other, okOther := impl.PickOfTwo(a, b, k)
		counts = append(counts, first, asked, last, askedLast, key, askedPick, flag(ok), other, flag(okOther))
	}
	second, asked, ok := impl.SecondOf(a)
	least, greatest, askedEnds := impl.EndsOf(a)
	return [][]int{w.Keys, beaten, append(counts, second, asked, flag(ok), least, greatest, askedEnds)}
}

// allInRows calls each function of chapter 5 that takes rows and returns all of the results.
func allInRows(rows [][]int) [][]int {
	counts := []int{flag(impl.ValidRows(rows))}
	for x := -1; x <= 10; x++ {
		f := find(rows, x)
		counts = append(counts, f.row, f.place, f.looked, flag(f.ok), impl.CountInRows(rows, x))
	}
	return [][]int{counts}
}

// pickedLists are keys that are merged, searched and picked.
var pickedLists = [][]int{{}, {7}, {1, 2}, {1, 1}, {2, 1}, {1, 3, 3, 5}, {4, 2, 3, 1, 5}, {0, 1, 2, 3, 4, 5, 6, 7}, {8, 7, 6, 5, 4, 3, 2, 1}, {100}}

func TestMemoryOfPicksIsOwn(t *testing.T) {
	for _, a := range pickedLists {
		checkOwnMemory(t, a, func(a []int) [][]int { return allPicks(a, a) })
		for _, b := range pickedLists {
			checkOwnMemory(t, a, func(a []int) [][]int { return allPicks(a, b) })
			checkOwnMemory(t, b, func(b []int) [][]int { return allPicks(a, b) })
		}
	}
}

func TestTablesAreNotChanged(t *testing.T) {
	for _, keys := range [][]int{{1, 4, 7, 2, 5, 8}, {1, 1, 1, 1, 1, 1}, {6, 5, 4, 3, 2, 1}} {
		for width := 1; width <= len(keys); width++ {
			checkOwnMemory(t, keys, func(keys []int) [][]int {
				rows := cutInRows(keys, width)
				room := append(slices.Clone(rows), []int{mark})
				lists := allInRows(room[:len(rows)])
				if !slices.EqualFunc(room[:len(rows)], rows, slices.Equal) || !slices.Equal(room[len(rows)], []int{mark}) {
					t.Errorf("the rows %v were changed: %v", rows, room)
				}
				return lists
			})
		}
	}
}

func TestPicksKeepNoState(t *testing.T) {
	for _, b := range [][]int{nil, {0, 2}, {2, 0}} {
		checkNoState(t, pickedLists, func(a []int) [][]int { return allPicks(a, b) })
		checkNoState(t, pickedLists, func(a []int) [][]int { return allPicks(b, a) })
	}
	checkNoState(t, [][]int{{1, 4, 7, 2, 5, 8}, {}, {5}, {2, 1}}, func(keys []int) [][]int { return allInRows(cutInRows(keys, 3)) })
}

func TestTablesOfNothingAreTheSame(t *testing.T) {
	for _, rows := range [][][]int{nil, {}, {nil}, {{}}, {nil, {}}, {{}, {}}} {
		if got, want := allInRows(rows), allInRows(nil); !slices.EqualFunc(got, want, slices.Equal) {
			t.Errorf("%v: %v, and of nothing %v", rows, got, want)
		}
	}
}
