package tests

import (
	"slices"
	"testing"

	"loop.example/measuredsorts/impl"
)

// pairs returns how many pairs of indices i and j, i less than j, are so.
func pairs(n int, so func(i, j int) bool) int {
	count := 0
	for j := range n {
		for i := range j {
			if so(i, j) {
				count++
			}
		}
	}
	return count
}

// at returns the keys at the indices.
func at(keys, indices []int) []int {
	var some []int
	for _, i := range indices {
		some = append(some, keys[i])
	}
	return some
}

// bestRow returns the indices of the longest row of keys in which each follows the one ahead, the first one of several:
// all rows are tried.
func bestRow(keys []int, follows func(ahead, key int) bool) []int {
	var best []int
	for set := range 1 << len(keys) {
		var row []int
		ok := true
		for i := range keys {
			if set>>i&1 == 1 {
				ok = ok && (len(row) == 0 || follows(keys[row[len(row)-1]], keys[i]))
				row = append(row, i)
			}
		}
		if ok && (len(row) > len(best) || len(row) == len(best) && slices.Compare(row, best) < 0) {
			best = row
		}
	}
	return best
}

func TestPromise1KeysCanBeCut(t *testing.T) {
	for _, keys := range someKeys() {
		holds(t, impl.ValidKeys(keys), keys, "keys")
		if len(keys) > 0 {
			holds(t, impl.ValidKeys(keys[:len(keys)-1]), keys, "keys without the last one")
		}
		holds(t, impl.ValidKeys(impl.SortedKeys(keys)), keys, "keys when sorted")
	}
	for key := -impl.MaxKey; key <= impl.MaxKey; key++ {
		holds(t, impl.ValidKeys([]int{key, 0, key}), []int{key, 0, key}, "keys")
	}
	holds(t, !impl.ValidKeys(make([]int, impl.MaxKeys+1)), nil, "one key too many")
	holds(t, !impl.ValidKeys([]int{impl.MaxKey + 1}) && !impl.ValidKeys([]int{-impl.MaxKey - 1}), nil, "a key too great, and one too small")
}

func TestPromise2SortedKeysHaveNoInversions(t *testing.T) {
	for _, keys := range someKeys() {
		is := impl.IsSorted(keys)
		holds(t, is == sorted(keys), keys, "sorted")
		holds(t, is == (impl.InversionsOf(keys) == 0), keys, "sorted exactly with no inversions")
		holds(t, is == slices.Equal(impl.SortedKeys(keys), keys), keys, "sorted exactly if SortedKeys are the keys")
		count := pairs(len(keys), func(i, j int) bool { return keys[i] > keys[j] })
		holds(t, impl.InversionsOf(keys) == count, keys, "inversions are pairs with the greater one ahead")
	}
}

func TestPromise3PlacesAreAnOrder(t *testing.T) {
	for _, keys := range someKeys() {
		places := impl.PlacesOf(keys)
		holds(t, len(places) == len(keys), keys, "a place for each key")
		ordered := slices.Sorted(slices.Values(places))
		for i, place := range ordered {
			holds(t, place == i, keys, "all places once")
		}
		holds(t, impl.InversionsOf(places) == impl.InversionsOf(keys), keys, "places have the inversions of the keys")
	}
}

func TestPromise4SortedKeysAreAtTheirPlaces(t *testing.T) {
	for _, keys := range someKeys() {
		got := impl.SortedKeys(keys)
		holds(t, slices.Equal(got, slices.Sorted(slices.Values(keys))), keys, "sorted keys are the keys, the least first")
		holds(t, impl.IsSorted(got), keys, "sorted keys are sorted")
		places := impl.PlacesOf(keys)
		for i, place := range places {
			holds(t, got[place] == keys[i], keys, "each key is at its place")
			for j := range i {
				holds(t, keys[j] != keys[i] || places[j] < place, keys, "of equal keys the one ahead stays ahead")
			}
		}
	}
}

func TestPromise6RunsAreAllKeys(t *testing.T) {
	for _, keys := range someKeys() {
		runs := impl.RunsOf(keys)
		if len(keys) == 0 {
			holds(t, len(runs) == 0, keys, "no keys have no runs")
			continue
		}
		from, falls := 0, 0
		for _, length := range runs {
			holds(t, length >= 1 && from+length <= len(keys), keys, "each run has keys")
			holds(t, sorted(keys[from:from+length]), keys, "runs do not fall")
			from += length
		}
		for i := 1; i < len(keys); i++ {
			if keys[i] < keys[i-1] {
				falls++
			}
		}
		holds(t, from == len(keys), keys, "runs together are the keys")
		holds(t, len(runs) == falls+1, keys, "one run more than falls")
	}
}

func TestPromise7LongestRisesAreSorted(t *testing.T) {
	for _, keys := range someKeys() {
		rise := impl.LongestRise(keys)
		want := bestRow(keys, func(ahead, key int) bool { return key >= ahead })
		holds(t, slices.Equal(rise, want), keys, "the first one of the longest rises")
		holds(t, impl.IsSorted(at(keys, rise)), keys, "the keys at LongestRise are sorted")
		holds(t, len(rise)+impl.RemovalsOf(keys) == len(keys), keys, "with RemovalsOf they are all")
	}
}

func TestPromise8RemovalsAreFew(t *testing.T) {
	for _, keys := range someKeys() {
		removals := impl.RemovalsOf(keys)
		holds(t, removals <= impl.InversionsOf(keys), keys, "removals at most inversions")
		holds(t, removals <= impl.MisplacedOf(keys), keys, "removals at most misplaced")
		holds(t, (removals == 0) == sorted(keys), keys, "removals 0 for sorted keys alone")
	}
}

func TestPromise9ExchangesAreFew(t *testing.T) {
	for _, keys := range someKeys() {
		exchanges, misplaced := impl.ExchangesOf(keys), impl.MisplacedOf(keys)
		holds(t, exchanges == exchangesDone(keys), keys, "exchanges that bring each key to its place")
		holds(t, exchanges <= impl.InversionsOf(keys), keys, "exchanges at most inversions")
		holds(t, exchanges < misplaced || misplaced == 0 && exchanges == 0, keys, "exchanges less than misplaced")
		holds(t, 2*exchanges >= misplaced, keys, "exchanges at least half of misplaced")
	}
}

// exchangesDone exchanges keys, each time so that one of them comes to its place, and returns how often.
func exchangesDone(keys []int) int {
	places, count := impl.PlacesOf(keys), 0
	for i := range places {
		for places[i] != i {
			p := places[i]
			places[i], places[p] = places[p], places[i]
			count++
		}
	}
	return count
}

func TestPromise10OneKeyAloneIsNotMisplaced(t *testing.T) {
	for _, keys := range someKeys() {
		misplaced, count := impl.MisplacedOf(keys), 0
		for i, place := range impl.PlacesOf(keys) {
			if i != place {
				count++
			}
		}
		holds(t, misplaced == count, keys, "misplaced are the indices that are not theirs")
		holds(t, misplaced != 1, keys, "misplaced is never 1")
		holds(t, (misplaced == 0) == sorted(keys), keys, "misplaced 0 for sorted keys alone")
	}
}

func TestPromise11FarthestAndWidest(t *testing.T) {
	for _, keys := range someKeys() {
		farthest, widest, far := impl.FarthestOf(keys), impl.WidestOf(keys), 0
		for i, place := range impl.PlacesOf(keys) {
			far = max(far, i-place, place-i)
		}
		holds(t, farthest == far, keys, "farthest is the greatest difference of index and place")
		holds(t, farthest <= widest, keys, "farthest at most widest")
		holds(t, widest < 2*farthest || widest == 0, keys, "widest less than twice farthest")
	}
}

func TestPromise12WidePairsAreInversions(t *testing.T) {
	for _, keys := range someKeys() {
		widest, wide := impl.WidestOf(keys), 0
		pairs(len(keys), func(i, j int) bool {
			if keys[i] > keys[j] {
				wide = max(wide, j-i)
			}
			return true
		})
		holds(t, widest == wide, keys, "widest is the greatest difference of indices of a wrong pair")
		holds(t, widest <= impl.InversionsOf(keys), keys, "widest at most inversions")
		holds(t, (widest == 0) == sorted(keys), keys, "widest 0 for sorted keys alone")
	}
}

func TestPromise13PilesAreTheLongestFall(t *testing.T) {
	for _, keys := range someKeys() {
		piles := impl.PilesOf(keys)
		var all []int
		for _, pile := range piles {
			holds(t, len(pile) > 0 && impl.IsSorted(pile), keys, "piles are sorted")
			all = append(all, pile...)
		}
		slices.Sort(all)
		holds(t, slices.Equal(all, impl.SortedKeys(keys)), keys, "piles are all keys")
		holds(t, len(piles) == impl.LongestFall(keys), keys, "as many piles as the longest fall")
		fall := bestRow(keys, func(ahead, key int) bool { return key < ahead })
		holds(t, impl.LongestFall(keys) == len(fall), keys, "the longest fall")
		holds(t, slices.EqualFunc(piles, pilesDealt(keys), slices.Equal), keys, "each key is on the first pile that takes it")
	}
}

// pilesDealt returns the piles one after the other: each takes, of the keys that those ahead of it left over, what does not fall.
func pilesDealt(keys []int) [][]int {
	var piles [][]int
	for len(keys) > 0 {
		var pile, left []int
		for _, key := range keys {
			if len(pile) == 0 || key >= pile[len(pile)-1] {
				pile = append(pile, key)
			} else {
				left = append(left, key)
			}
		}
		piles = append(piles, pile)
		keys = left
	}
	return piles
}

func TestPromise14FallsMeetEachRunOnce(t *testing.T) {
	for _, keys := range someKeys() {
		fall := impl.LongestFall(keys)
		holds(t, fall <= len(impl.RunsOf(keys)), keys, "the longest fall at most runs")
		holds(t, fall <= impl.RemovalsOf(keys)+1, keys, "the longest fall at most 1 more than removals")
		holds(t, (fall <= 1) == sorted(keys), keys, "no fall of two in sorted keys alone")
	}
}

func TestPromise15SwingsAreFew(t *testing.T) {
	for _, keys := range someKeys() {
		swings, count := impl.SwingsOf(keys), 0
		for i := 1; i < len(keys); i++ {
			for _, key := range keys {
				if keys[i-1] < key && key < keys[i] || keys[i] < key && key < keys[i-1] {
					count++
				}
			}
		}
		holds(t, swings == count, keys, "swings are the keys between neighbours")
		holds(t, swings <= 4*impl.InversionsOf(keys), keys, "swings at most 4 times inversions")
		holds(t, swings == impl.SwingsOf(turned(keys)), keys, "as many swings of the keys turned")
	}
}

func TestPromise16RemovedKeysBreakThreeTimes(t *testing.T) {
	for _, keys := range someKeys() {
		breaks := impl.BreaksOf(keys)
		walk, count := slices.Concat([]int{-1}, impl.PlacesOf(keys), []int{len(keys)}), 0
		for i := 1; i < len(walk); i++ {
			if walk[i]-walk[i-1] != 1 {
				count++
			}
		}
		holds(t, breaks == count, keys, "breaks are the places that are not 1 more")
		holds(t, breaks <= 3*impl.RemovalsOf(keys), keys, "breaks at most 3 times removals")
		holds(t, (breaks == 0) == sorted(keys), keys, "breaks 0 for sorted keys alone")
	}
}

func TestPromise17MeasuresAreZeroForSortedKeys(t *testing.T) {
	for _, keys := range someKeys() {
		for name := range named {
			n, ok := impl.MeasureOf(name, keys)
			holds(t, ok, keys, "MeasureOf knows "+name)
			holds(t, n == 0 || !sorted(keys), keys, "0 for sorted keys: "+name)
			holds(t, n > 0 || sorted(keys) || name == "swings", keys, "0 for sorted keys alone: "+name)
		}
	}
}
