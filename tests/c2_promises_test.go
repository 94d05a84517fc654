package tests

import (
	"math/bits"
	"slices"
	"testing"

	"loop.example/measuredsorts/impl"
)

// doubled returns how often 1 must be doubled to be at least n.
func doubled(n int) int {
	if n < 2 {
		return 0
	}
	return bits.Len(uint(n - 1))
}

// sum returns all numbers together.
func sum(numbers []int) int {
	total := 0
	for _, n := range numbers {
		total += n
	}
	return total
}

// sortsThem reports whether the keys of the work are the keys sorted.
func sortsThem(w impl.Work, keys []int) bool {
	return slices.Equal(w.Keys, slices.Sorted(slices.Values(keys)))
}

// different reports whether no two of the keys are equal.
func different(keys []int) bool {
	return pairs(len(keys), func(i, j int) bool { return keys[i] == keys[j] }) == 0
}

func TestPromise5InversionsAreMovesOfInsertion(t *testing.T) {
	for _, keys := range someKeys() {
		count := impl.InversionsOf(keys)
		holds(t, count == inversions(keys), keys, "inversions are pairs with the greater one ahead")
		holds(t, impl.InsertionSort(keys).Moved == count, keys, "insertion moves each inversion")
		both := count + impl.InversionsOf(turned(keys))
		holds(t, both <= allPairs(len(keys)), keys, "with those of the keys turned at most all pairs")
		holds(t, both == allPairs(len(keys)) || !different(keys), keys, "of different keys, with those turned all pairs")
	}
}

func TestPromise18InsertionAsksOnceMore(t *testing.T) {
	for _, keys := range someKeys() {
		w := impl.InsertionSort(keys)
		holds(t, sortsThem(w, keys), keys, "InsertionSort sorts")
		holds(t, w.Moved == inversions(keys), keys, "Moved is the inversions")
		holds(t, w.Moved <= w.Asked && w.Asked <= w.Moved+max(len(keys)-1, 0), keys, "Asked at most as many more as keys but one")
		holds(t, !sorted(keys) || w.Asked == max(len(keys)-1, 0), keys, "sorted keys ask once for each but one")
	}
}

func TestPromise19HalvingAsksLess(t *testing.T) {
	for _, keys := range someKeys() {
		w := impl.BinarySort(keys)
		holds(t, sortsThem(w, keys), keys, "BinarySort sorts")
		holds(t, w.Moved == inversions(keys), keys, "Moved is the inversions")
		holds(t, w.Asked <= impl.BinaryMost(len(keys)), keys, "Asked at most BinaryMost")
	}
	for n := range impl.MaxKeys {
		most := 0
		for _, keys := range orders(n) {
			most = max(most, impl.BinarySort(keys).Asked)
		}
		holds(t, most == impl.BinaryMost(n), []int{n}, "some keys ask as much as BinaryMost")
	}
}

func TestPromise20BubblesMoveEachInversion(t *testing.T) {
	for _, keys := range someKeys() {
		w := impl.BubbleSort(keys)
		holds(t, sortsThem(w, keys), keys, "BubbleSort sorts")
		holds(t, w.Moved == inversions(keys), keys, "Moved is the inversions")
		holds(t, w.Asked <= allPairs(len(keys)), keys, "Asked at most all pairs")
		holds(t, !sorted(keys) || w.Asked == max(len(keys)-1, 0), keys, "sorted keys take one end")
	}
}

func TestPromise21SelectionAsksForAllPairs(t *testing.T) {
	for _, keys := range someKeys() {
		w := impl.SelectionSort(keys)
		holds(t, sortsThem(w, keys), keys, "SelectionSort sorts")
		holds(t, w.Asked == allPairs(len(keys)), keys, "Asked is all pairs")
		holds(t, !different(keys) || w.Moved == impl.ExchangesOf(keys), keys, "Moved, for different keys, is exchanges")
		holds(t, !sorted(keys) || w.Moved == 0, keys, "sorted keys stay")
	}
}

func TestPromise22MergingHalvesMovesTheSame(t *testing.T) {
	for _, keys := range someKeys() {
		w := impl.MergeSort(keys)
		holds(t, sortsThem(w, keys), keys, "MergeSort sorts")
		holds(t, w.Asked <= impl.MergeMost(len(keys)), keys, "Asked at most MergeMost")
		holds(t, w.Moved == impl.MergeSort(impl.SortedKeys(keys)).Moved, keys, "Moved is that of the sorted keys")
		holds(t, w.Asked <= w.Moved, keys, "no more is asked than put")
	}
	for n := range impl.MaxKeys {
		most := 0
		for _, keys := range orders(n) {
			most = max(most, impl.MergeSort(keys).Asked)
		}
		holds(t, most == impl.MergeMost(n), []int{n}, "some keys ask as much as MergeMost")
	}
}

func TestPromise23RunsAreHalvedInEachRound(t *testing.T) {
	for _, keys := range someKeys() {
		w, rounds := impl.NaturalSort(keys)
		holds(t, sortsThem(w, keys), keys, "NaturalSort sorts")
		holds(t, rounds == doubled(len(impl.RunsOf(keys))), keys, "as many rounds as 1 is doubled to be at least the runs")
		holds(t, !sorted(keys) || rounds == 0 && w.Asked == 0 && w.Moved == 0, keys, "sorted keys are no work")
		holds(t, w.Moved <= rounds*len(keys), keys, "each round puts each key once at most")
	}
}

func TestPromise24StepsMoveNoMoreThanInversions(t *testing.T) {
	for _, keys := range someKeys() {
		for _, steps := range [][]int{{2, 1}, {3, 2, 1}, {5, 3, 1}, {8, 4, 2, 1}, {1, 3, 1}} {
			w := impl.ShellSort(keys, steps)
			holds(t, sortsThem(w, keys), keys, "ShellSort sorts")
			holds(t, w.Moved <= inversions(keys), keys, "Moved at most inversions")
			holds(t, !sorted(keys) || w.Moved == 0, keys, "sorted keys stay")
		}
		w, insertion := impl.ShellSort(keys, []int{1}), impl.InsertionSort(keys)
		holds(t, sortsThem(w, keys) && w.Asked == insertion.Asked && w.Moved == insertion.Moved, keys, "with the step 1 alone it is InsertionSort")
		if len(keys) > 0 {
			w = impl.ShellSort(keys, []int{len(keys), 1})
			holds(t, w.Asked == insertion.Asked && w.Moved == insertion.Moved, keys, "a step as long as the keys is no work")
		}
	}
}

func TestPromise25HeapsSort(t *testing.T) {
	for _, keys := range someKeys() {
		w := impl.HeapSort(keys)
		holds(t, sortsThem(w, keys), keys, "HeapSort sorts")
		holds(t, w.Moved >= len(keys)-1, keys, "moves at least once for each key but one")
	}
}

func TestPromise26SortingByTheFirstAsksAsATree(t *testing.T) {
	for _, keys := range someKeys() {
		w := impl.QuickSort(keys)
		holds(t, sortsThem(w, keys), keys, "QuickSort sorts")
		holds(t, w.Asked == sum(impl.TreeDepths(keys)), keys, "Asked is the sum of TreeDepths")
		holds(t, !sorted(keys) || w.Asked == allPairs(len(keys)) && w.Moved == 0, keys, "sorted keys ask for all pairs, and none is less")
	}
}

func TestPromise27DepthsAreAtMostTheKeysAhead(t *testing.T) {
	for _, keys := range someKeys() {
		depths := impl.TreeDepths(keys)
		holds(t, slices.Equal(depths, depthsModel(keys)), keys, "depths are the keys met")
		greatest := -1
		for i, depth := range depths {
			holds(t, i > 0 || depth == 0, keys, "depths begin with 0")
			holds(t, 0 <= depth && depth <= greatest+1, keys, "depths rise by at most 1")
			holds(t, !sorted(keys) || depth == i, keys, "of sorted keys each is its index")
			greatest = max(greatest, depth)
		}
	}
}

func TestPromise28FlipsAreFewerThanTwiceTheKeys(t *testing.T) {
	for _, keys := range someKeys() {
		w := impl.FlipSort(keys)
		holds(t, sortsThem(w, keys), keys, "FlipSort sorts")
		holds(t, w.Asked == allPairs(len(keys)), keys, "Asked is all pairs")
		holds(t, w.Moved <= max(2*len(keys)-3, 0), keys, "Moved at most twice the keys less 3")
		holds(t, !sorted(keys) || w.Moved == 0, keys, "sorted keys stay")
	}
}

func TestPromise30TheMostRises(t *testing.T) {
	for n := 0; n < impl.MaxCount; n++ {
		more := impl.BinaryMost(n+1) - impl.BinaryMost(n)
		holds(t, impl.BinaryMost(n) >= 0 && more >= 0, []int{n}, "BinaryMost of one more is no less")
		holds(t, more <= bits.Len(uint(n)), []int{n}, "more by at most the bits of the number")
		holds(t, more == doubled(n+1), []int{n}, "more by how often 1 is doubled to be at least the number")
	}
	holds(t, impl.BinaryMost(impl.MaxCount+1) == -1 && impl.BinaryMost(-1) == -1, nil, "none beyond the limits")
}
