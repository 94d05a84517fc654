package tests

import (
	"slices"
	"testing"

	"loop.example/measuredsorts/impl"
)

func TestPromise40TwoListsAreMergedAsSets(t *testing.T) {
	for m := range impl.MaxItems + 1 {
		for k := range impl.MaxItems + 1 - m {
			chains, n := impl.ChainFacts(m, k), m+k
			a := about{n, chains}
			holdsOf(t, len(impl.OrdersLeft(n, chains)) == impl.MergeOrders(m, k), a, "OrdersLeft are as many as MergeOrders")
			for _, order := range impl.OrdersLeft(n, chains) {
				for item := 1; item < n; item++ {
					holdsOf(t, item == m || isAhead(order, item-1, item), a, "both lists rise in each order")
				}
			}
			if n <= impl.MaxAsk {
				least := impl.LeastAsks(n, chains)
				holdsOf(t, 0 <= least && least <= max(n-1, 0), a, "LeastAsks is at most 1 less than the items")
				holdsOf(t, (least == 0) == (m == 0 || k == 0), a, "nothing is asked if one of the lists is empty")
			}
		}
	}
}

func TestPromise49MergedKeysAreSorted(t *testing.T) {
	for _, two := range somePairsOfLists() {
		w := impl.MergeKeys(two.a, two.b)
		holds(t, slices.Equal(w.Keys, impl.SortedKeys(two.all())) && sortsThem(w, two.all()), two.all(), "MergeKeys is SortedKeys of both")
		holds(t, w.Moved == len(two.all()), two.all(), "Moved is all keys")
		holds(t, 0 <= w.Asked && w.Asked <= max(len(two.all())-1, 0), two.all(), "Asked is fewer")
		holds(t, w.Asked == asksToMerge(two.a, two.b), two.all(), "nothing is asked when the keys of one list are out")
	}
}

func TestPromise50WaysToMergeAddUp(t *testing.T) {
	for m := range impl.MaxKeys + 1 {
		for k := range impl.MaxKeys + 1 {
			ways := impl.MergeOrders(m, k)
			holds(t, ways == impl.MergeOrders(k, m), []int{m, k}, "the same both ways")
			if m == 0 || k == 0 {
				holds(t, ways == 1, []int{m, k}, "an empty list is merged in one way")
				continue
			}
			holds(t, ways == impl.MergeOrders(m-1, k)+impl.MergeOrders(m, k-1), []int{m, k}, "that with one key less of each one together")
		}
	}
}

func TestPromise51HalvingFindsTheFirstPlace(t *testing.T) {
	for _, keys := range someSorted() {
		for _, x := range numbersAround(keys) {
			place, asked := impl.FirstAt(keys, x)
			holds(t, place == countWhere(keys, func(key int) bool { return key < x }), keys, "FirstAt is how many keys are less")
			holds(t, 0 <= asked && asked <= doubled(len(keys)+1), keys, "it asks at most as often as 1 is doubled to be more than the keys")
			holds(t, asked == asksToFind(len(keys), place), keys, "it asks by halves")
		}
	}
}

func TestPromise52BetweenBothPlacesKeysAreEqual(t *testing.T) {
	for _, keys := range someSorted() {
		for _, x := range numbersAround(keys) {
			first, _ := impl.FirstAt(keys, x)
			last, asked := impl.LastAt(keys, x)
			holds(t, last-first == countWhere(keys, func(key int) bool { return key == x }), keys, "LastAt less FirstAt is how many keys are x")
			holds(t, last == countWhere(keys, func(key int) bool { return key <= x }), keys, "LastAt is how many keys are at most x")
			holds(t, 0 <= asked && asked <= doubled(len(keys)+1), keys, "it asks at most as often as 1 is doubled to be more than the keys")
			holds(t, asked == asksToFind(len(keys), last), keys, "it asks by halves")
		}
	}
}

func TestPromise53PickedKeysAreSortedOnes(t *testing.T) {
	for _, keys := range someKeys() {
		all := impl.QuickSort(keys).Asked
		for _, k := range indicesAround(len(keys)) {
			key, asked, ok := impl.PickKey(keys, k)
			if !isIndex(k, len(keys)) {
				holds(t, key == 0 && asked == 0 && !ok, keys, "no key is picked beyond both ends")
				continue
			}
			holds(t, ok && key == slices.Sorted(slices.Values(keys))[k], keys, "PickKey is the one of SortedKeys")
			holds(t, len(keys)-1 <= asked && asked <= all, keys, "it asks no more than QuickSort")
			holds(t, asked == asksToPick(keys, k), keys, "it parts only those among which it is")
		}
	}
}

func TestPromise54TheLeastKeyWinsACup(t *testing.T) {
	for _, keys := range someKeys() {
		winner, beaten := impl.CupOf(keys)
		if len(keys) == 0 {
			holds(t, winner == -1 && len(beaten) == 0, keys, "no keys have no winner")
			continue
		}
		holds(t, winner == slices.Index(keys, slices.Min(keys)), keys, "CupOf is the first index of the least key")
		holds(t, len(beaten) <= doubled(len(keys)), keys, "it won as often as bits at most")
		holds(t, len(beaten) > 0 || len(keys) == 1, keys, "it won at least once, but alone")
		_, want := cupModel(keys)
		holds(t, slices.Equal(beaten, want), keys, "it won against the winners of the other pieces")
	}
}

func TestPromise55TheSecondOneLostToTheFirstOne(t *testing.T) {
	for _, keys := range someKeys() {
		second, asked, ok := impl.SecondOf(keys)
		if len(keys) < 2 {
			holds(t, second == 0 && asked == 0 && !ok, keys, "one key has no second one")
			continue
		}
		holds(t, ok && second == slices.Sorted(slices.Values(keys))[1], keys, "SecondOf is the second one of SortedKeys")
		holds(t, asked <= len(keys)+doubled(len(keys))-2, keys, "it asks no more than the keys and the bits less 2")
		_, beaten := cupModel(keys)
		holds(t, asked == len(keys)-1+len(beaten)-1, keys, "it asks for the cup, and for all but one that the winner won against")
	}
}

func TestPromise56BothEndsAreFound(t *testing.T) {
	for _, keys := range someKeys() {
		least, greatest, asked := impl.EndsOf(keys)
		if len(keys) == 0 {
			holds(t, least == 0 && greatest == 0 && asked == -1, keys, "no keys have no ends")
			continue
		}
		holds(t, least == slices.Min(keys) && greatest == slices.Max(keys), keys, "EndsOf are the first and the last one of SortedKeys")
		holds(t, 2*asked+4 == 3*len(keys)+len(keys)%2, keys, "twice the questions and 4 are three times the keys, or 1 more")
	}
}

func TestPromise57TablesCanBeCut(t *testing.T) {
	for _, rows := range someTables() {
		holdsIn(t, isTable(rows) && impl.ValidRows(rows), rows, 0, "a table")
		if len(rows) > 0 {
			holdsIn(t, impl.ValidRows(rows[:len(rows)-1]), rows, 0, "a table without its last row is one")
			holdsIn(t, impl.ValidRows(rows[1:]), rows, 0, "and without its first row")
			last := slices.Clone(rows[len(rows)-1])
			holdsIn(t, impl.ValidRows(append(slices.Clone(rows), last)) == (len(rows) < impl.MaxKeys), rows, 0, "and with its last row twice, up to MaxKeys")
		}
	}
	for _, rows := range badTables() {
		holdsIn(t, !isTable(rows) && !impl.ValidRows(rows), rows, 0, "no table")
	}
}

// holdsIn fails the test for the rows and x if a promise about them is broken.
func holdsIn(t *testing.T, ok bool, rows [][]int, x int, what string) {
	t.Helper()
	if !ok {
		t.Fatalf("%v, %d: not so: %s", rows, x, what)
	}
}

func TestPromise58LookingFromACornerFinds(t *testing.T) {
	for _, rows := range someTables() {
		keys := slices.Concat(rows...)
		for _, x := range numbersAround(keys) {
			f := find(rows, x)
			holdsIn(t, f.ok == slices.Contains(keys, x), rows, x, "it finds x exactly if it is in a row")
			if f.ok {
				holdsIn(t, rows[f.row][f.place] == x, rows, x, "x is where it is found")
			} else {
				holdsIn(t, f.row == -1 && f.place == -1, rows, x, "x is nowhere if it is not found")
			}
			if len(rows) > 0 {
				holdsIn(t, f.looked < len(rows)+len(rows[0]), rows, x, "it looks at fewer keys than rows and places")
			}
			holdsIn(t, (f.looked == 0) == (len(keys) == 0), rows, x, "it looks at a key if there is one, and at none if not")
		}
	}
}

func TestPromise59RowsAreCountedOneByOne(t *testing.T) {
	for _, rows := range someTables() {
		keys := slices.Concat(rows...)
		for _, x := range numbersAround(keys) {
			together := 0
			for _, row := range rows {
				count, _ := impl.LastAt(row, x)
				together += count
			}
			count := impl.CountInRows(rows, x)
			holdsIn(t, count == together, rows, x, "CountInRows is the sum of LastAt of all rows")
			holdsIn(t, count == countWhere(keys, func(key int) bool { return key <= x }), rows, x, "all keys that are at most x are counted")
		}
	}
}

func TestPromise60TwoListsAreOne(t *testing.T) {
	for _, two := range slices.Concat(somePairsOfLists(), longPairsOfLists()) {
		all := slices.Sorted(slices.Values(two.all()))
		if len(all) <= impl.MaxKeys {
			holds(t, slices.Equal(all, impl.SortedKeys(two.all())), all, "both together are SortedKeys")
		}
		for _, k := range indicesAround(len(all)) {
			key, ok := impl.PickOfTwo(two.a, two.b, k)
			if isIndex(k, len(all)) {
				holds(t, ok && key == all[k], all, "PickOfTwo is the one of both together")
			} else {
				holds(t, !ok && key == 0, all, "no key is picked beyond both ends")
			}
		}
	}
}
