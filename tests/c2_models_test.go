package tests

import (
	"slices"
	"sort"

	"loop.example/measuredsorts/impl"
)

// models tell for each sort the effort for valid keys, by other rules than the program's wherever there are some.
var models = map[string]func(keys []int) effort{
	"InsertionSort": insertionModel,
	"BinarySort":    binaryModel,
	"BubbleSort":    bubbleModel,
	"SelectionSort": selectionModel,
	"MergeSort":     mergeModel,
	"NaturalSort":   naturalModel,
	"HeapSort":      heapModel,
	"QuickSort":     quickModel,
	"FlipSort":      flipModel,
}

// allPairs returns how many pairs there are of n keys.
func allPairs(n int) int {
	return n * (n - 1) / 2
}

// greaterAhead returns for each key how many of those ahead of it are greater.
func greaterAhead(keys []int) []int {
	counts := make([]int, len(keys))
	pairs(len(keys), func(i, j int) bool {
		if keys[i] > keys[j] {
			counts[j]++
		}
		return true
	})
	return counts
}

// inversions returns how many pairs have the greater key ahead.
func inversions(keys []int) int {
	return pairs(len(keys), func(i, j int) bool { return keys[i] > keys[j] })
}

// insertionModel: a key passes each greater one ahead of it, and asks once more if there is one that is not.
func insertionModel(keys []int) effort {
	var e effort
	for i, passed := range greaterAhead(keys) {
		e.moved += passed
		e.asked += passed
		if passed < i {
			e.asked++
		}
	}
	return e
}

// binaryModel: the standard library searches by the same halves.
func binaryModel(keys []int) effort {
	e := effort{moved: inversions(keys)}
	for i, key := range keys {
		ahead := slices.Sorted(slices.Values(keys[:i]))
		sort.Search(i, func(at int) bool {
			e.asked++
			return ahead[at] > key
		})
	}
	return e
}

// bubbleModel: each round but the last one brings each key past one of the greater ones ahead of it.
func bubbleModel(keys []int) effort {
	e := effort{moved: inversions(keys)}
	if len(keys) < 2 {
		return e
	}
	rounds := min(slices.Max(greaterAhead(keys))+1, len(keys)-1)
	for round := 1; round <= rounds; round++ {
		e.asked += len(keys) - round
	}
	return e
}

// selectionModel: all pairs are asked for, and the first least key of those left is brought to their beginning.
func selectionModel(keys []int) effort {
	e := effort{asked: allPairs(len(keys))}
	left := slices.Clone(keys)
	for len(left) > 0 {
		if least := slices.Index(left, slices.Min(left)); least > 0 {
			left[least] = left[0]
			e.moved++
		}
		left = left[1:]
	}
	return e
}

// asksToMerge: nothing is asked for those keys of one list that come behind all of the other one.
func asksToMerge(a, b []int) int {
	if len(a) == 0 || len(b) == 0 {
		return 0
	}
	asked := len(a) + len(b)
	for _, key := range a {
		if key > slices.Max(b) {
			asked--
		}
	}
	for _, key := range b {
		if key >= slices.Max(a) {
			asked--
		}
	}
	return asked
}

// mergeModel: each list is asked for when its halves are merged.
func mergeModel(keys []int) effort {
	if len(keys) < 2 {
		return effort{}
	}
	a, b := keys[:len(keys)/2], keys[len(keys)/2:]
	first, second := mergeModel(a), mergeModel(b)
	return effort{first.asked + second.asked + asksToMerge(a, b), first.moved + second.moved + len(keys)}
}

// naturalModel: in each round pieces of 1, 2, 4 and so on runs are merged two and two.
func naturalModel(keys []int) effort {
	var e effort
	starts := runStarts(keys)
	for size := 1; size < len(starts)-1; size *= 2 {
		for from := 0; from+size < len(starts)-1; from += 2 * size {
			to := min(from+2*size, len(starts)-1)
			e.asked += asksToMerge(keys[starts[from]:starts[from+size]], keys[starts[from+size]:starts[to]])
			e.moved += starts[to] - starts[from]
		}
	}
	return e
}

// runStarts returns the indices at which runs begin, and the number of the keys at last.
func runStarts(keys []int) []int {
	var starts []int
	for i := range keys {
		if i == 0 || keys[i] < keys[i-1] {
			starts = append(starts, i)
		}
	}
	return append(starts, len(keys))
}

// heapModel does what the document says, with the keys that are done cut off.
func heapModel(keys []int) effort {
	var e effort
	heap := slices.Clone(keys)
	for i := len(heap)/2 - 1; i >= 0; i-- {
		e.sink(heap, i)
	}
	for len(heap) > 1 {
		last := len(heap) - 1
		heap[0], heap[last] = heap[last], heap[0]
		e.moved++
		heap = heap[:last]
		e.sink(heap, 0)
	}
	return e
}

// sink lets the key at i sink in the heap.
func (e *effort) sink(heap []int, i int) {
	below := 2*i + 1
	switch {
	case below >= len(heap):
		return
	case below+1 < len(heap):
		e.asked += 2
		if heap[below+1] > heap[below] {
			below++
		}
	default:
		e.asked++
	}
	if heap[below] > heap[i] {
		heap[below], heap[i] = heap[i], heap[below]
		e.moved++
		e.sink(heap, below)
	}
}

// meets reports whether the key at j is compared with that at i, ahead of it, in a tree: no key ahead of both parts them.
func meets(places []int, i, j int) bool {
	low, high := min(places[i], places[j]), max(places[i], places[j])
	return !slices.ContainsFunc(places[:i], func(p int) bool { return low < p && p < high })
}

// depthsModel counts for each key those that it meets.
func depthsModel(keys []int) []int {
	places := impl.PlacesOf(keys)
	depths := make([]int, len(keys))
	pairs(len(keys), func(i, j int) bool {
		if meets(places, i, j) {
			depths[j]++
		}
		return true
	})
	return depths
}

// quickModel: a key is compared with those that it meets in a tree, and is less than some of them.
func quickModel(keys []int) effort {
	places := impl.PlacesOf(keys)
	asked := pairs(len(keys), func(i, j int) bool { return meets(places, i, j) })
	moved := pairs(len(keys), func(i, j int) bool { return meets(places, i, j) && keys[j] < keys[i] })
	return effort{asked, moved}
}

// flipModel: all pairs are asked for; what is left when the greatest key is away are the keys behind it, turned, and then those ahead of it.
func flipModel(keys []int) effort {
	e := effort{asked: allPairs(len(keys))}
	left := slices.Clone(keys)
	for len(left) > 1 {
		greatest := slices.Max(left)
		at := len(left) - 1
		for left[at] != greatest {
			at--
		}
		switch at {
		case len(left) - 1:
			left = left[:at]
			continue
		case 0:
			e.moved++
		default:
			e.moved += 2
		}
		left = slices.Concat(turned(left[at+1:]), left[:at])
	}
	return e
}

// stepsModel: the keys a step apart are lists of their own that are sorted by insertion.
func stepsModel(keys, steps []int) effort {
	var e effort
	keys = slices.Clone(keys)
	for _, step := range steps {
		for from := range min(step, len(keys)) {
			var list []int
			for i := from; i < len(keys); i += step {
				list = append(list, keys[i])
			}
			own := insertionModel(list)
			e.asked += own.asked
			e.moved += own.moved
			slices.Sort(list)
			for i, key := range list {
				keys[from+i*step] = key
			}
		}
	}
	return e
}

// someSteps returns steps of many kinds: falling, rising and equal ones, and some that are longer than most keys.
func someSteps() [][]int {
	steps := [][]int{{1}, {1, 1}, {1, 2, 1}, {2, 4, 8, 1}, {4, 2, 1}, {5, 3, 1}, {7, 3, 1}, {8, 7, 6, 5, 4, 3, 2, 1}, {1, 1, 1, 1, 1, 1, 1, 1}, {1, 2, 3, 4, 5, 6, 7, 1}}
	for step := 2; step <= impl.MaxKeys; step++ {
		steps = append(steps, []int{step, 1}, []int{step, step, 1}, []int{1, step, 1})
	}
	return steps
}

// badSteps returns numbers that are not steps.
func badSteps() [][]int {
	bad := [][]int{
		nil, {}, {0}, {2}, {-1}, {8}, {9}, {1, 0}, {1, 2}, {2, 2}, {1, -1}, {0, 1}, {-1, 1}, {9, 1}, {1, 9, 1}, {2, 9, 1}, {100, 1},
		{1<<63 - 1, 1}, {-1 << 63, 1}, {1 << 32, 1}, {1, 1, 1, 1, 1, 1, 1, 1, 1}, {9, 8, 7, 6, 5, 4, 3, 2, 1}, {8, 7, 6, 5, 4, 3, 2, 1, 1},
		{8, 7, 6, 5, 4, 3, 2, 2}, make([]int, impl.MaxKeys), slices.Repeat([]int{1}, 1000),
	}
	for at := range impl.MaxKeys { // the one that is too long or too short, at each index
		for _, step := range []int{impl.MaxKeys + 1, 0, -1} {
			steps := slices.Repeat([]int{1}, impl.MaxKeys)
			steps[at] = step
			bad = append(bad, steps)
		}
	}
	return bad
}
