package tests

import (
	"slices"
	"testing"

	"loop.example/measuredsorts/impl"
)

// mark is a number that no key, index or count can be.
const mark = -7777

// someKeys returns all lists of at most 5 of the keys 0 to 3, all orders of up to 7 different keys, and lists of
// MaxKeys keys of every kind: different ones, equal ones, turned ones, and the least and the greatest.
func someKeys() [][]int {
	var lists [][]int
	for n := 0; n <= 5; n++ {
		lists = append(lists, allLists(n, []int{0, 1, 2, 3})...)
	}
	lists = append(lists, allLists(impl.MaxKeys, []int{-impl.MaxKey, impl.MaxKey})...)
	lists = append(lists, orders(6)...)
	lists = append(lists, orders(7)...)
	return append(lists, mixedKeys(2000)...)
}

// allLists returns all lists of n of the values.
func allLists(n int, values []int) [][]int {
	lists := [][]int{{}}
	for range n {
		var longer [][]int
		for _, list := range lists {
			for _, v := range values {
				longer = append(longer, append(slices.Clone(list), v))
			}
		}
		lists = longer
	}
	return lists
}

// orders returns all orders of the keys 0 to n-1.
func orders(n int) [][]int {
	lists := [][]int{{}}
	for v := range n {
		var longer [][]int
		for _, list := range lists {
			for at := 0; at <= v; at++ {
				longer = append(longer, slices.Insert(slices.Clone(list), at, v))
			}
		}
		lists = longer
	}
	return lists
}

// mixedKeys returns lists of MaxKeys keys that follow a fixed rule, of narrow and of wide ranges.
func mixedKeys(count int) [][]int {
	var lists [][]int
	seed := uint32(1)
	for i := range count {
		width := []int{3, 6, 12, 2*impl.MaxKey + 1}[i%4]
		list := make([]int, impl.MaxKeys)
		for j := range list {
			seed = seed*1664525 + 1013904223
			list[j] = int(seed>>8)%width - width/2
		}
		lists = append(lists, list)
	}
	return lists
}

// badKeys returns numbers that are not keys.
func badKeys() [][]int {
	bad := [][]int{
		{impl.MaxKey + 1}, {-impl.MaxKey - 1}, {0, impl.MaxKey + 1}, {impl.MaxKey + 1, 0}, {1, -impl.MaxKey - 1, 2},
		{1 << 62}, {-1 << 63}, {1<<63 - 1}, make([]int, impl.MaxKeys+1), make([]int, 1000), {0, 1, 2, 3, 4, 5, 6, 7, 8},
	}
	for at := range impl.MaxKeys { // the one that is too great or too small, at each index
		for _, key := range []int{impl.MaxKey + 1, -impl.MaxKey - 1} {
			keys := make([]int, impl.MaxKeys)
			keys[at] = key
			bad = append(bad, keys)
		}
	}
	return bad
}

// fill sets all numbers of the list to v.
func fill(list []int, v int) {
	for i := range list {
		list[i] = v
	}
}

// turned returns the keys from the last one to the first one.
func turned(keys []int) []int {
	back := slices.Clone(keys)
	slices.Reverse(back)
	return back
}

// sorted reports, without the program, whether no key is less than the one ahead of it.
func sorted(keys []int) bool {
	return slices.IsSorted(keys)
}

// holds fails the test for the keys if a promise about them is broken.
func holds(t *testing.T, ok bool, keys []int, what string) {
	t.Helper()
	if !ok {
		t.Fatalf("%v: not so: %s", keys, what)
	}
}

// checkOwnMemory fails the test if calls with the keys change them, or if lists that they return share memory with them
// or with each other.
func checkOwnMemory(t *testing.T, keys []int, calls func(keys []int) [][]int) {
	t.Helper()
	room := append(slices.Clone(keys), mark, mark, mark, mark)
	results := calls(room[:len(keys)])
	for i, list := range results {
		fill(list[:cap(list)], i)
	}
	for i, list := range results {
		for _, v := range list[:cap(list)] {
			if v != i {
				t.Errorf("%v: result %d shares memory with result %d", keys, i, v)
			}
		}
	}
	if !slices.Equal(room[:len(keys)], keys) || !slices.Equal(room[len(keys):], []int{mark, mark, mark, mark}) {
		t.Errorf("%v: the argument was changed, or a result shares its memory: %v", keys, room)
	}
}

// checkNoState fails the test if calls with the lists, done again in another order, return something else.
func checkNoState(t *testing.T, lists [][]int, calls func(keys []int) [][]int) {
	t.Helper()
	var first [][][]int
	for _, keys := range lists {
		first = append(first, calls(keys))
	}
	for _, list := range calls(lists[0]) {
		fill(list, mark)
	}
	for i := len(lists) - 1; i >= 0; i-- {
		if again := calls(lists[i]); !slices.EqualFunc(again, first[i], slices.Equal) {
			t.Errorf("%v: %v, and then %v", lists[i], first[i], again)
		}
	}
	if !slices.EqualFunc(calls(nil), calls([]int{}), slices.Equal) {
		t.Error("nil and empty keys differ")
	}
}
