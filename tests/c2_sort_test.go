package tests

import (
	"slices"
	"testing"

	"loop.example/measuredsorts/impl"
)

// effort is how often is asked and how often moved.
type effort struct{ asked, moved int }

// sorts are the functions of chapter 2 that sort keys and need nothing else.
var sorts = map[string]func([]int) impl.Work{
	"InsertionSort": impl.InsertionSort,
	"BinarySort":    impl.BinarySort,
	"BubbleSort":    impl.BubbleSort,
	"SelectionSort": impl.SelectionSort,
	"MergeSort":     impl.MergeSort,
	"NaturalSort":   naturalWork,
	"HeapSort":      impl.HeapSort,
	"QuickSort":     impl.QuickSort,
	"FlipSort":      impl.FlipSort,
}

// naturalWork is NaturalSort without the rounds.
func naturalWork(keys []int) impl.Work {
	w, _ := impl.NaturalSort(keys)
	return w
}

// workedSorts are keys with what chapter 2 says of sorting them, worked out by hand.
var workedSorts = []struct {
	keys, depths []int
	rounds       int
	efforts      map[string]effort
}{
	{keys: nil, efforts: map[string]effort{}},
	{keys: []int{7}, depths: []int{0}, efforts: map[string]effort{}},
	{keys: []int{1, 2}, depths: []int{0, 1}, efforts: map[string]effort{
		"InsertionSort": {1, 0}, "BinarySort": {1, 0}, "BubbleSort": {1, 0}, "SelectionSort": {1, 0}, "MergeSort": {1, 2},
		"HeapSort": {1, 2}, "QuickSort": {1, 0}, "FlipSort": {1, 0}}},
	{keys: []int{2, 1}, depths: []int{0, 1}, rounds: 1, efforts: map[string]effort{
		"InsertionSort": {1, 1}, "BinarySort": {1, 1}, "BubbleSort": {1, 1}, "SelectionSort": {1, 1}, "MergeSort": {1, 2},
		"NaturalSort": {1, 2}, "HeapSort": {1, 1}, "QuickSort": {1, 1}, "FlipSort": {1, 1}}},
	{keys: []int{2, 2, 2}, depths: []int{0, 1, 2}, efforts: map[string]effort{
		"InsertionSort": {2, 0}, "BinarySort": {2, 0}, "BubbleSort": {2, 0}, "SelectionSort": {3, 0}, "MergeSort": {2, 5},
		"HeapSort": {3, 2}, "QuickSort": {3, 0}, "FlipSort": {3, 0}}},
	{keys: []int{1, 2, 3}, depths: []int{0, 1, 2}, efforts: map[string]effort{
		"InsertionSort": {2, 0}, "BinarySort": {2, 0}, "BubbleSort": {2, 0}, "SelectionSort": {3, 0}, "MergeSort": {2, 5},
		"HeapSort": {3, 4}, "QuickSort": {3, 0}, "FlipSort": {3, 0}}},
	{keys: []int{3, 2, 1}, depths: []int{0, 1, 2}, rounds: 2, efforts: map[string]effort{
		"InsertionSort": {3, 3}, "BinarySort": {3, 3}, "BubbleSort": {3, 3}, "SelectionSort": {3, 1}, "MergeSort": {3, 5},
		"NaturalSort": {2, 5}, "HeapSort": {3, 3}, "QuickSort": {3, 3}, "FlipSort": {3, 1}}},
	{keys: []int{3, 1, 2, 0}, depths: []int{0, 1, 2, 2}, rounds: 2, efforts: map[string]effort{
		"InsertionSort": {6, 5}, "BinarySort": {5, 5}, "BubbleSort": {6, 5}, "SelectionSort": {6, 1}, "MergeSort": {5, 8},
		"NaturalSort": {3, 7}, "HeapSort": {6, 5}, "QuickSort": {5, 4}, "FlipSort": {6, 4}}},
	{keys: []int{5, 6, 7, 8, 1, 2, 3, 4}, depths: []int{0, 1, 2, 3, 1, 2, 3, 4}, rounds: 1, efforts: map[string]effort{
		"InsertionSort": {22, 16}, "BinarySort": {16, 16}, "BubbleSort": {25, 16}, "SelectionSort": {28, 4}, "MergeSort": {12, 24},
		"NaturalSort": {4, 8}, "HeapSort": {28, 18}, "QuickSort": {16, 4}, "FlipSort": {28, 3}}},
}

func TestWorkedSorts(t *testing.T) {
	for _, w := range workedSorts {
		for name, sort := range sorts {
			checkWork(t, name, w.keys, sort(w.keys), w.efforts[name])
		}
		if got := impl.TreeDepths(w.keys); !slices.Equal(got, w.depths) {
			t.Errorf("TreeDepths(%v) = %v, not %v", w.keys, got, w.depths)
		}
		if _, got := impl.NaturalSort(w.keys); got != w.rounds {
			t.Errorf("NaturalSort(%v) takes %d rounds, not %d", w.keys, got, w.rounds)
		}
	}
}

// workedSteps are keys and steps with what chapter 2 says of sorting by them, worked out by hand. Some steps are longer
// than the keys.
var workedSteps = []struct {
	keys, steps []int
	effort
}{
	{nil, []int{1}, effort{0, 0}},
	{nil, []int{8, 1}, effort{0, 0}},
	{[]int{7}, []int{1}, effort{0, 0}},
	{[]int{7}, []int{8, 7, 6, 5, 4, 3, 2, 1}, effort{0, 0}},
	{[]int{2, 1}, []int{8, 1}, effort{1, 1}},
	{[]int{2, 1}, []int{2, 1}, effort{1, 1}},
	{[]int{2, 1}, []int{1, 1}, effort{2, 1}},
	{[]int{3, 2, 1}, []int{3, 1}, effort{3, 3}},
	{[]int{3, 1, 2, 0}, []int{2, 1}, effort{7, 5}},
	{[]int{3, 1, 2, 0}, []int{1, 2, 1}, effort{11, 5}},
	{[]int{4, 3, 2, 1}, []int{2, 1}, effort{6, 4}},
	{[]int{4, 3, 2, 1}, []int{3, 1}, effort{5, 2}},
	{[]int{5, 4, 3, 2, 1}, []int{2, 1}, effort{8, 4}},
	{[]int{2, 2, 2, 2}, []int{2, 1}, effort{5, 0}},
	{[]int{1, 2, 3, 4, 5, 6, 7, 8}, []int{1, 1, 1, 1, 1, 1, 1, 1}, effort{56, 0}},
}

func TestWorkedSteps(t *testing.T) {
	for _, w := range workedSteps {
		checkWork(t, "ShellSort", w.keys, impl.ShellSort(w.keys, w.steps), w.effort)
	}
}

// checkWork fails the test if the work is not that of sorting the keys with the effort.
func checkWork(t *testing.T, name string, keys []int, got impl.Work, want effort) {
	t.Helper()
	if !slices.Equal(got.Keys, slices.Sorted(slices.Values(keys))) {
		t.Fatalf("%s(%v) has the keys %v", name, keys, got.Keys)
	}
	if got.Asked != want.asked || got.Moved != want.moved {
		t.Fatalf("%s(%v) asked %d and moved %d, not %d and %d", name, keys, got.Asked, got.Moved, want.asked, want.moved)
	}
}

func TestSortsFollowTheirRules(t *testing.T) {
	for _, keys := range someKeys() {
		for name, sort := range sorts {
			checkWork(t, name, keys, sort(keys), models[name](keys))
		}
	}
}

func TestStepsFollowTheirRule(t *testing.T) {
	for _, keys := range mixedKeys(200) {
		for n := range len(keys) + 1 {
			for _, steps := range someSteps() {
				checkWork(t, "ShellSort", keys[:n], impl.ShellSort(keys[:n], steps), stepsModel(keys[:n], steps))
			}
		}
	}
}

func TestSortsOfInvalidKeys(t *testing.T) {
	for _, keys := range badKeys() {
		for name, sort := range sorts {
			checkNoWork(t, name, sort(keys))
		}
		for _, steps := range append(someSteps(), badSteps()...) {
			checkNoWork(t, "ShellSort", impl.ShellSort(keys, steps))
		}
		if _, rounds := impl.NaturalSort(keys); rounds != 0 {
			t.Errorf("NaturalSort(%v) takes %d rounds", keys, rounds)
		}
		if got := impl.TreeDepths(keys); len(got) != 0 {
			t.Errorf("TreeDepths(%v) = %v, not nil", keys, got)
		}
	}
}

func TestInvalidSteps(t *testing.T) {
	for _, steps := range badSteps() {
		for _, keys := range [][]int{nil, {7}, {1, 2}, {2, 1}, {3, 1, 2, 0}, {8, 7, 6, 5, 4, 3, 2, 1}} {
			checkNoWork(t, "ShellSort", impl.ShellSort(keys, steps))
		}
	}
}

// checkNoWork fails the test if the work is not the zero value.
func checkNoWork(t *testing.T, name string, got impl.Work) {
	t.Helper()
	if len(got.Keys) != 0 || got.Asked != 0 || got.Moved != 0 {
		t.Errorf("%s of invalid numbers = %v", name, got)
	}
}

func TestMostOfFew(t *testing.T) {
	for n, want := range []int{0, 0, 1, 3, 5, 8, 11, 14, 17, 21, 25} {
		if got := impl.MergeMost(n); got != want {
			t.Errorf("MergeMost(%d) = %d, not %d", n, got, want)
		}
		if got := impl.BinaryMost(n); got != want {
			t.Errorf("BinaryMost(%d) = %d, not %d", n, got, want)
		}
	}
}

func TestMostOfMany(t *testing.T) {
	for n := 1; n <= impl.MaxCount; n++ {
		d := doubled(n)
		want := n*d - (1 << d) + 1
		if m, b := impl.MergeMost(n), impl.BinaryMost(n); m != want || b != want {
			t.Errorf("MergeMost and BinaryMost of %d are %d and %d, not %d", n, m, b, want)
		}
	}
}

func TestMostAtTheLimits(t *testing.T) {
	if impl.MaxCount != 1000 {
		t.Errorf("MaxCount = %d", impl.MaxCount)
	}
	if m, b := impl.MergeMost(impl.MaxCount), impl.BinaryMost(impl.MaxCount); m != 8977 || b != 8977 {
		t.Errorf("MergeMost and BinaryMost of MaxCount are %d and %d, not 8977", m, b)
	}
	for _, n := range []int{-1, -2, -1000, impl.MaxCount + 1, impl.MaxCount + 2, 1 << 40, 1<<63 - 1, -1 << 63} {
		if m, b := impl.MergeMost(n), impl.BinaryMost(n); m != -1 || b != -1 {
			t.Errorf("MergeMost and BinaryMost of %d are %d and %d, not -1", n, m, b)
		}
	}
}

// allWork calls each function of chapter 2 that takes keys and returns all lists of the results.
func allWork(keys, steps []int) [][]int {
	works := []impl.Work{impl.ShellSort(keys, steps)}
	for _, name := range []string{"InsertionSort", "BinarySort", "BubbleSort", "SelectionSort", "MergeSort", "NaturalSort", "HeapSort", "QuickSort", "FlipSort"} {
		works = append(works, sorts[name](keys))
	}
	_, rounds := impl.NaturalSort(keys)
	lists := [][]int{impl.TreeDepths(keys)}
	counts := []int{rounds}
	for _, w := range works {
		lists = append(lists, w.Keys)
		counts = append(counts, w.Asked, w.Moved)
	}
	return append(lists, counts)
}

func TestMemoryOfSortsIsOwn(t *testing.T) {
	room := []int{3, 2, 1, mark, mark}
	calls := func(keys []int) [][]int { return allWork(keys, room[:3]) }
	for _, keys := range [][]int{{}, {7}, {1, 2}, {1, 2, 3}, {4, 3, 2, 1}, {2, 2, 1, 1}, {3, 1, 4, 1, 5, 2}, {8, 7, 6, 5, 4, 3, 2, 1}, {100, 1}} {
		checkOwnMemory(t, keys, calls)
		if !slices.Equal(room, []int{3, 2, 1, mark, mark}) {
			t.Errorf("%v: the steps were changed, or a result shares their memory: %v", keys, room)
		}
	}
}

func TestSortsKeepNoState(t *testing.T) {
	lists := [][]int{{3, 1, 2}, {1, 2, 3}, {2, 2, 1}, {}, {7}, {100}, {8, 7, 6, 5, 4, 3, 2, 1}}
	for _, steps := range [][]int{{2, 1}, {1}, nil} {
		checkNoState(t, lists, func(keys []int) [][]int { return allWork(keys, steps) })
	}
	if !slices.EqualFunc(allWork([]int{2, 1}, nil), allWork([]int{2, 1}, []int{}), slices.Equal) {
		t.Error("nil and empty steps differ")
	}
}
