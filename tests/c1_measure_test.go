package tests

import (
	"slices"
	"testing"

	"loop.example/measuredsorts/impl"
)

// numberMeasures are the functions of chapter 1 that return a number.
var numberMeasures = map[string]func([]int) int{
	"InversionsOf": impl.InversionsOf,
	"RemovalsOf":   impl.RemovalsOf,
	"ExchangesOf":  impl.ExchangesOf,
	"MisplacedOf":  impl.MisplacedOf,
	"FarthestOf":   impl.FarthestOf,
	"WidestOf":     impl.WidestOf,
	"LongestFall":  impl.LongestFall,
	"SwingsOf":     impl.SwingsOf,
	"BreaksOf":     impl.BreaksOf,
}

// listMeasures are the functions of chapter 1 that return a list of numbers.
var listMeasures = map[string]func([]int) []int{
	"PlacesOf":    impl.PlacesOf,
	"SortedKeys":  impl.SortedKeys,
	"RunsOf":      impl.RunsOf,
	"LongestRise": impl.LongestRise,
}

// named are the names of MeasureOf, each with what it returns for valid keys.
var named = map[string]func([]int) int{
	"inversions": impl.InversionsOf,
	"removals":   impl.RemovalsOf,
	"exchanges":  impl.ExchangesOf,
	"misplaced":  impl.MisplacedOf,
	"farthest":   impl.FarthestOf,
	"widest":     impl.WidestOf,
	"swings":     impl.SwingsOf,
	"breaks":     impl.BreaksOf,
	"runs":       func(keys []int) int { return max(len(impl.RunsOf(keys))-1, 0) },
	"piles":      func(keys []int) int { return max(len(impl.PilesOf(keys))-1, 0) },
}

// worked are keys with what chapter 1 says of them, worked out by hand.
var worked = []struct {
	keys, places, sorted, runs, rise              []int
	piles                                         [][]int
	inversions, removals, exchanges, misplaced    int
	farthest, widest, longestFall, swings, breaks int
}{
	{keys: nil},
	{keys: []int{7}, places: []int{0}, sorted: []int{7}, runs: []int{1}, rise: []int{0}, piles: [][]int{{7}}, longestFall: 1},
	{keys: []int{2, 2, 2}, places: []int{0, 1, 2}, sorted: []int{2, 2, 2}, runs: []int{3}, rise: []int{0, 1, 2}, piles: [][]int{{2, 2, 2}}, longestFall: 1},
	{keys: []int{2, 1}, places: []int{1, 0}, sorted: []int{1, 2}, runs: []int{1, 1}, rise: []int{0}, piles: [][]int{{2}, {1}},
		inversions: 1, removals: 1, exchanges: 1, misplaced: 2, farthest: 1, widest: 1, longestFall: 2, swings: 0, breaks: 3},
	{keys: []int{4, 3, 2, 1}, places: []int{3, 2, 1, 0}, sorted: []int{1, 2, 3, 4}, runs: []int{1, 1, 1, 1}, rise: []int{0}, piles: [][]int{{4}, {3}, {2}, {1}},
		inversions: 6, removals: 3, exchanges: 2, misplaced: 4, farthest: 3, widest: 3, longestFall: 4, swings: 0, breaks: 5},
	{keys: []int{1, 1, 0, 0}, places: []int{2, 3, 0, 1}, sorted: []int{0, 0, 1, 1}, runs: []int{2, 2}, rise: []int{0, 1}, piles: [][]int{{1, 1}, {0, 0}},
		inversions: 4, removals: 2, exchanges: 2, misplaced: 4, farthest: 2, widest: 3, longestFall: 2, swings: 0, breaks: 3},
	{keys: []int{2, 3, 1}, places: []int{1, 2, 0}, sorted: []int{1, 2, 3}, runs: []int{2, 1}, rise: []int{0, 1}, piles: [][]int{{2, 3}, {1}},
		inversions: 2, removals: 1, exchanges: 2, misplaced: 3, farthest: 2, widest: 2, longestFall: 2, swings: 1, breaks: 3},
	{keys: []int{3, 1, 4, 1, 5, 2}, places: []int{3, 0, 4, 1, 5, 2}, sorted: []int{1, 1, 2, 3, 4, 5}, runs: []int{1, 2, 2, 1}, rise: []int{0, 2, 4}, piles: [][]int{{3, 4, 5}, {1, 1, 2}},
		inversions: 6, removals: 3, exchanges: 4, misplaced: 6, farthest: 3, widest: 5, longestFall: 2, swings: 10, breaks: 7},
	{keys: []int{-99, 99, 0, 99, -99}, places: []int{0, 3, 2, 4, 1}, sorted: []int{-99, -99, 0, 99, 99}, runs: []int{2, 2, 1}, rise: []int{0, 1, 3}, piles: [][]int{{-99, 99, 99}, {0}, {-99}},
		inversions: 4, removals: 2, exchanges: 2, misplaced: 3, farthest: 3, widest: 3, longestFall: 3, swings: 2, breaks: 5},
	{keys: []int{5, 6, 7, 8, 1, 2, 3, 4}, places: []int{4, 5, 6, 7, 0, 1, 2, 3}, sorted: []int{1, 2, 3, 4, 5, 6, 7, 8}, runs: []int{4, 4}, rise: []int{0, 1, 2, 3}, piles: [][]int{{5, 6, 7, 8}, {1, 2, 3, 4}},
		inversions: 16, removals: 4, exchanges: 4, misplaced: 8, farthest: 4, widest: 7, longestFall: 2, swings: 6, breaks: 3},
}

func TestWorkedLists(t *testing.T) {
	for _, w := range worked {
		want := map[string][]int{"PlacesOf": w.places, "SortedKeys": w.sorted, "RunsOf": w.runs, "LongestRise": w.rise}
		for name, f := range listMeasures {
			if got := f(w.keys); !slices.Equal(got, want[name]) {
				t.Errorf("%s(%v) = %v, not %v", name, w.keys, got, want[name])
			}
		}
		if got := impl.PilesOf(w.keys); !slices.EqualFunc(got, w.piles, slices.Equal) {
			t.Errorf("PilesOf(%v) = %v, not %v", w.keys, got, w.piles)
		}
		if got, want := impl.IsSorted(w.keys), w.inversions == 0; got != want {
			t.Errorf("IsSorted(%v) = %v", w.keys, got)
		}
	}
}

func TestWorkedNumbers(t *testing.T) {
	for _, w := range worked {
		want := map[string]int{
			"InversionsOf": w.inversions, "RemovalsOf": w.removals, "ExchangesOf": w.exchanges, "MisplacedOf": w.misplaced,
			"FarthestOf": w.farthest, "WidestOf": w.widest, "LongestFall": w.longestFall, "SwingsOf": w.swings, "BreaksOf": w.breaks,
		}
		for name, f := range numberMeasures {
			if got := f(w.keys); got != want[name] {
				t.Errorf("%s(%v) = %d, not %d", name, w.keys, got, want[name])
			}
		}
	}
}

func TestLimits(t *testing.T) {
	if impl.MaxKeys != 8 || impl.MaxKey != 99 {
		t.Errorf("MaxKeys = %d, MaxKey = %d", impl.MaxKeys, impl.MaxKey)
	}
	for _, keys := range [][]int{nil, {}, {99}, {-99}, {-99, 99}, {5, 5, 5}, make([]int, 8), {99, -99, 99, -99, 99, -99, 99, -99}} {
		if !impl.ValidKeys(keys) {
			t.Errorf("ValidKeys(%v) = false", keys)
		}
	}
	for _, keys := range badKeys() {
		if impl.ValidKeys(keys) {
			t.Errorf("ValidKeys(%v) = true", keys)
		}
	}
}

func TestInvalidKeys(t *testing.T) {
	for _, keys := range badKeys() {
		if impl.IsSorted(keys) {
			t.Errorf("IsSorted(%v) = true", keys)
		}
		for name, f := range numberMeasures {
			if got := f(keys); got != -1 {
				t.Errorf("%s(%v) = %d, not -1", name, keys, got)
			}
		}
		for name, f := range listMeasures {
			if got := f(keys); len(got) != 0 {
				t.Errorf("%s(%v) = %v, not nil", name, keys, got)
			}
		}
		if got := impl.PilesOf(keys); len(got) != 0 {
			t.Errorf("PilesOf(%v) = %v, not nil", keys, got)
		}
		for name := range named {
			if n, ok := impl.MeasureOf(name, keys); n != 0 || ok {
				t.Errorf("MeasureOf(%q, %v) = %d, %v", name, keys, n, ok)
			}
		}
	}
}

func TestMeasureOfNames(t *testing.T) {
	for _, keys := range append(orders(5), allLists(4, []int{-1, 0, 99})...) {
		for name, f := range named {
			if n, ok := impl.MeasureOf(name, keys); n != f(keys) || !ok {
				t.Fatalf("MeasureOf(%q, %v) = %d, %v, not %d, true", name, keys, n, ok, f(keys))
			}
		}
	}
	for name := range named {
		if n, ok := impl.MeasureOf(name, nil); n != 0 || !ok {
			t.Errorf("MeasureOf(%q, no keys) = %d, %v", name, n, ok)
		}
	}
	for _, name := range []string{"", "Inversions", "inversion", "runs ", " runs", "RUNS", "sorted", "falls", "rise", "places", "breaks\x00", "InversionsOf"} {
		for _, keys := range [][]int{nil, {2, 1}, {1, 2}, {100}} {
			if n, ok := impl.MeasureOf(name, keys); n != 0 || ok {
				t.Errorf("MeasureOf(%q, %v) = %d, %v", name, keys, n, ok)
			}
		}
	}
}

// everything calls each function of chapter 1 and returns all lists of the results.
func everything(keys []int) [][]int {
	lists := impl.PilesOf(keys)
	for _, name := range []string{"PlacesOf", "SortedKeys", "RunsOf", "LongestRise"} {
		lists = append(lists, listMeasures[name](keys))
	}
	counts := []int{}
	for _, name := range []string{"InversionsOf", "RemovalsOf", "ExchangesOf", "MisplacedOf", "FarthestOf", "WidestOf", "LongestFall", "SwingsOf", "BreaksOf"} {
		counts = append(counts, numberMeasures[name](keys))
	}
	for _, name := range []string{"inversions", "removals", "exchanges", "misplaced", "farthest", "widest", "swings", "breaks", "runs", "piles", "none"} {
		n, _ := impl.MeasureOf(name, keys)
		counts = append(counts, n)
	}
	for _, yes := range []bool{impl.ValidKeys(keys), impl.IsSorted(keys)} {
		if yes {
			counts = append(counts, 1)
		} else {
			counts = append(counts, 0)
		}
	}
	return append(lists, counts)
}

func TestMemoryIsOwn(t *testing.T) {
	for _, keys := range [][]int{{}, {7}, {1, 2, 3}, {4, 3, 2, 1}, {2, 2, 1, 1}, {3, 1, 4, 1, 5, 2}, {8, 7, 6, 5, 4, 3, 2, 1}, {100, 1}} {
		checkOwnMemory(t, keys, everything)
	}
}

func TestNoState(t *testing.T) {
	checkNoState(t, [][]int{{3, 1, 2}, {1, 2, 3}, {2, 2, 1}, {}, {100}, {8, 7, 6, 5, 4, 3, 2, 1}}, everything)
}
