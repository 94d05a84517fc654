package tests

import (
	"slices"
	"sort"

	"loop.example/measuredsorts/impl"
)

// someSorted returns sorted keys: all lists of at most 5 of the keys 0 to 3, those of MaxKeys of the least and the greatest
// key, and mixed ones of each length.
func someSorted() [][]int {
	var lists [][]int
	for n := 0; n <= 5; n++ {
		lists = append(lists, allLists(n, []int{0, 1, 2, 3})...)
	}
	lists = append(lists, allLists(impl.MaxKeys, []int{-impl.MaxKey, impl.MaxKey})...)
	lists = slices.DeleteFunc(lists, func(list []int) bool { return !sorted(list) })
	for i, keys := range mixedKeys(200) {
		lists = append(lists, slices.Sorted(slices.Values(keys[:1+i/4%impl.MaxKeys])))
	}
	return lists
}

// twoLists are two lists of sorted keys.
type twoLists struct{ a, b []int }

// all returns the keys of both lists.
func (two twoLists) all() []int {
	return slices.Concat(two.a, two.b)
}

// somePairsOfLists returns sorted lists of at most MaxKeys keys together: all of at most 4 of the keys 0 to 2 each, and
// mixed ones that are cut at each index, so that one of them may have all keys.
func somePairsOfLists() []twoLists {
	var few [][]int
	for n := 0; n <= impl.MaxKeys/2; n++ {
		few = append(few, allLists(n, []int{0, 1, 2})...)
	}
	few = slices.DeleteFunc(few, func(list []int) bool { return !sorted(list) })
	var some []twoLists
	for _, a := range few {
		for _, b := range few {
			some = append(some, twoLists{a, b})
		}
	}
	for i, keys := range mixedKeys(400) {
		keys = keys[i/4%3:]
		for cut := range len(keys) + 1 {
			some = append(some, twoLists{slices.Sorted(slices.Values(keys[:cut])), slices.Sorted(slices.Values(keys[cut:]))})
		}
	}
	return some
}

// longPairsOfLists returns sorted lists of more than MaxKeys keys together.
func longPairsOfLists() []twoLists {
	var some []twoLists
	for i, keys := range mixedKeys(300) {
		a, b := slices.Sorted(slices.Values(keys[:1+i%impl.MaxKeys])), slices.Sorted(slices.Values(mixedKeys(i + 1)[i]))
		some = append(some, twoLists{a, b}, twoLists{b, a})
	}
	return some
}

// unsortedKeys returns keys that are not sorted.
func unsortedKeys() [][]int {
	lists := [][]int{{1, 0}, {-1, -2}, {0, 1, 0}, {2, 1, 3}, {1, 2, 3, 4, 5, 6, 8, 7}, {8, 1, 2, 3, 4, 5, 6, 7}, {impl.MaxKey, -impl.MaxKey}}
	return append(lists, slices.DeleteFunc(mixedKeys(50), sorted)...)
}

// notSorted returns numbers that are not keys, and keys that are not sorted.
func notSorted() [][]int {
	return append(badKeys(), unsortedKeys()...)
}

// numbersAround returns numbers that are less than, among, and greater than the keys, and the least and the greatest ones.
func numbersAround(keys []int) []int {
	numbers := []int{-1 << 63, -impl.MaxKey - 1, 0, impl.MaxKey + 1, 1<<63 - 1}
	for _, key := range keys {
		numbers = append(numbers, key-1, key, key+1)
	}
	slices.Sort(numbers)
	return slices.Compact(numbers)
}

// indicesAround returns the indices of n keys, and numbers that are none.
func indicesAround(n int) []int {
	indices := []int{-1 << 63, -impl.MaxKeys, -2, -1}
	for i := range n {
		indices = append(indices, i)
	}
	return append(indices, n, n+1, n+impl.MaxKeys, 1<<40, 1<<63-1)
}

// isIndex reports whether k is an index of n keys.
func isIndex(k, n int) bool {
	return 0 <= k && k < n
}

// countWhere returns how many of the keys are so.
func countWhere(keys []int, so func(key int) bool) int {
	count := 0
	for _, key := range keys {
		if so(key) {
			count++
		}
	}
	return count
}

// asksToFind: the standard library searches by the same halves.
func asksToFind(n, place int) int {
	asked := 0
	sort.Search(n, func(at int) bool {
		asked++
		return at >= place
	})
	return asked
}

// waysToMerge counts the sets of m of m+k places, which may be those of the keys of the first list.
func waysToMerge(m, k int) int {
	ways := 0
	for set := range 1 << (m + k) {
		count := 0
		for rest := set; rest > 0; rest &= rest - 1 {
			count++
		}
		if count == m {
			ways++
		}
	}
	return ways
}

// asksToPick: a key is asked for by each key that it meets in a tree, if that is the one that is picked, or is met by it.
func asksToPick(keys []int, k int) int {
	places := impl.PlacesOf(keys)
	picked := slices.Index(places, k)
	return pairs(len(keys), func(i, j int) bool {
		onWay := i == picked || i < picked && meets(places, i, picked)
		return onWay && meets(places, i, j)
	})
}

// cupModel: in round r the winner meets the least one of the other half of a piece of 2 to r+1 keys, if there is one.
func cupModel(keys []int) (int, []int) {
	winner := slices.Index(keys, slices.Min(keys))
	var beaten []int
	for r := 0; 1<<r < len(keys); r++ {
		from := (winner>>r ^ 1) << r
		to := min(from+1<<r, len(keys))
		if from < to {
			beaten = append(beaten, from+slices.Index(keys[from:to], slices.Min(keys[from:to])))
		}
	}
	return winner, beaten
}

// asksForEnds: three questions for two keys, but one for the first two, and none for a first one that stands alone.
func asksForEnds(n int) int {
	if n%2 == 0 {
		return 3*n/2 - 2
	}
	return 3 * (n - 1) / 2
}

// finding is what FindInRows returns.
type finding struct {
	row, place, looked int
	ok                 bool
}

// find returns what FindInRows does.
func find(rows [][]int, x int) finding {
	row, place, looked, ok := impl.FindInRows(rows, x)
	return finding{row, place, looked, ok}
}

// findModel: the row is the first one that has x, and the place the last one there. Each look but that at x is a move to
// the left or down, and the keys that are greater than x are passed on the way to the left.
func findModel(rows [][]int, x int) finding {
	passed := 0
	for i, row := range rows {
		passed = countWhere(row, func(key int) bool { return key > x })
		if place := len(row) - 1 - passed; slices.Contains(row, x) {
			return finding{i, place, passed + i + 1, true}
		}
		if passed == len(row) {
			return finding{-1, -1, passed + i, false}
		}
	}
	return finding{-1, -1, passed + len(rows), false}
}

// isTable reports whether rows are a table. Each key is held against all that may not be less.
func isTable(rows [][]int) bool {
	if len(rows) > impl.MaxKeys {
		return false
	}
	for i, row := range rows {
		if len(row) != len(rows[0]) || len(row) > impl.MaxKeys {
			return false
		}
		for j, key := range row {
			if key < -impl.MaxKey || key > impl.MaxKey {
				return false
			}
			for _, below := range rows[i:] {
				if len(below) == len(row) && slices.Min(below[j:]) < key {
					return false
				}
			}
		}
	}
	return true
}

// cutInRows returns the keys in rows of that width.
func cutInRows(keys []int, width int) [][]int {
	return slices.Collect(slices.Chunk(keys, width))
}

// rowsWithout returns n rows without keys.
func rowsWithout(n int) [][]int {
	return slices.Repeat([][]int{{}}, n)
}

// fewRows returns all rows, tables or not, of 2 times 2, 2 times 3, 3 times 2, 1 times 4 and 4 times 1 of the keys 0 to 2.
func fewRows() [][][]int {
	var some [][][]int
	for _, keys := range allLists(4, []int{0, 1, 2}) {
		some = append(some, cutInRows(keys, 1), cutInRows(keys, 2), cutInRows(keys, 4))
	}
	for _, keys := range allLists(6, []int{0, 1, 2}) {
		some = append(some, cutInRows(keys, 2), cutInRows(keys, 3))
	}
	return some
}

// mixedTables returns tables of all numbers of rows and of places up to MaxKeys, that follow a fixed rule: of steep and
// of flat ones, of different and of equal keys.
func mixedTables() [][][]int {
	var some [][][]int
	seed := uint32(1)
	for shape := range 9 * 9 * 4 {
		rows := make([][]int, shape/9%9)
		for i := range rows {
			rows[i] = make([]int, shape%9)
			for j := range rows[i] {
				least := shape%7*10 - 60
				if i > 0 {
					least = max(least, rows[i-1][j])
				}
				if j > 0 {
					least = max(least, rows[i][j-1])
				}
				seed = seed*1664525 + 1013904223
				rows[i][j] = least + int(seed>>8)%(2+shape/81*2)
			}
		}
		some = append(some, rows)
	}
	return some
}

// someTables returns tables of many kinds, those without keys among them.
func someTables() [][][]int {
	some := [][][]int{nil, {}, {nil}, {{}, nil}, {{-impl.MaxKey, impl.MaxKey}}, {{-impl.MaxKey}, {impl.MaxKey}}}
	for n := range impl.MaxKeys + 1 {
		some = append(some, rowsWithout(n))
	}
	some = append(some, slices.DeleteFunc(fewRows(), func(rows [][]int) bool { return !isTable(rows) })...)
	return append(some, mixedTables()...)
}

// badTables returns rows that are no table.
func badTables() [][][]int {
	bad := [][][]int{
		{{1, 0}}, {{1}, {0}}, {{1, 2}, {3}}, {{1}, {2, 3}}, {{1}, {}}, {{}, {1}}, {nil, {1}}, {{1}, nil}, {{1}, {1}, {}}, {{}, {}, {1}},
		{{1, 4, 7}, {2, 5, 6}}, {{1, 4, 7}, {0, 5, 8}}, {{1, 4, 7}, {2, 3, 8}}, {{1, 2}, {1, 2}, {1, 1}}, {{1, 2}, {3, 2}}, {{2, 1}, {2, 2}},
		rowsWithout(impl.MaxKeys + 1), rowsWithout(1000), cutInRows(make([]int, impl.MaxKeys+1), 1), cutInRows(make([]int, impl.MaxKeys+1), impl.MaxKeys+1),
		cutInRows(make([]int, 8*(impl.MaxKeys+1)), 8), cutInRows(make([]int, 8*(impl.MaxKeys+1)), impl.MaxKeys+1),
	}
	for _, keys := range notSorted() {
		bad = append(bad, [][]int{keys}, [][]int{keys, keys}, [][]int{{}, keys}, [][]int{keys, {}})
		least := slices.Repeat([]int{-impl.MaxKey}, len(keys))
		bad = append(bad, [][]int{least, keys}, [][]int{keys, slices.Repeat([]int{impl.MaxKey}, len(keys))})
	}
	bad = append(bad, slices.DeleteFunc(fewRows(), isTable)...)
	full := slices.Repeat([][]int{make([]int, impl.MaxKeys)}, impl.MaxKeys)
	for i := range full { // the one that is too small, too great or missing, in each row and at each place
		for j := range full[i] {
			for _, key := range []int{-1, 1} {
				rows := slices.Clone(full)
				rows[i] = slices.Clone(full[i])
				rows[i][j] = key
				if !isTable(rows) {
					bad = append(bad, rows)
				}
			}
		}
		rows := slices.Clone(full)
		rows[i] = full[i][1:]
		bad = append(bad, rows)
	}
	return bad
}
