package impl

import "slices"

// MaxKeys is the largest number of keys.
const MaxKeys = 8

// MaxKey is the greatest key.
const MaxKey = 99

// row has one number for each key. It is an array, so that two lists of keys of one length are compared by ==.
type row [MaxKeys]int

// measure counts something about valid keys.
type measure func(keys []int) int

// ValidKeys reports whether numbers are keys.
func ValidKeys(keys []int) bool {
	if len(keys) > MaxKeys {
		return false
	}
	for _, key := range keys {
		if key < -MaxKey || key > MaxKey {
			return false
		}
	}
	return true
}

// IsSorted reports whether no key is less than the one ahead of it.
func IsSorted(keys []int) bool {
	return ValidKeys(keys) && rowOf(keys) == rowOf(SortedKeys(keys))
}

// rowOf returns the keys, at most MaxKeys, with zeros behind them.
func rowOf(keys []int) row {
	var r row
	copy(r[:], keys)
	return r
}

// PlacesOf returns the place of each key.
func PlacesOf(keys []int) []int {
	if !ValidKeys(keys) {
		return nil
	}
	places := make([]int, len(keys))
	for i, key := range keys {
		for j, other := range keys {
			if other < key || other == key && j < i {
				places[i]++
			}
		}
	}
	return places
}

// SortedKeys returns keys, the least first.
func SortedKeys(keys []int) []int {
	if !ValidKeys(keys) {
		return nil
	}
	sorted := make([]int, len(keys))
	for i, place := range PlacesOf(keys) {
		sorted[place] = keys[i]
	}
	return sorted
}

// InversionsOf returns how many pairs stand the wrong way round.
func InversionsOf(keys []int) int {
	if !ValidKeys(keys) {
		return -1
	}
	inversions := 0
	for i := range keys {
		for j := i + 1; j < len(keys); j++ {
			if falls(keys[i], keys[j]) {
				inversions++
			}
		}
	}
	return inversions
}

// falls reports whether a key is less than the one ahead of it.
func falls(ahead, key int) bool {
	return key < ahead
}

// rises reports whether a key is not less than the one ahead of it, so that equal keys rise too.
func rises(ahead, key int) bool {
	return key >= ahead
}

// RunsOf returns the lengths of pieces that do not fall.
func RunsOf(keys []int) []int {
	if !ValidKeys(keys) {
		return nil
	}
	var runs []int
	for i, key := range keys {
		if i == 0 || falls(keys[i-1], key) {
			runs = append(runs, 0)
		}
		runs[len(runs)-1]++
	}
	return runs
}

// LongestRise returns the first longest row that does not fall.
func LongestRise(keys []int) []int {
	if !ValidKeys(keys) {
		return nil
	}
	lengths := chainsFrom(keys, rises)
	left := slices.Max(lengths[:])
	var rise []int
	for i, key := range keys {
		// The first index with which a longest row can still be had is always the right one.
		if lengths[i] == left && (len(rise) == 0 || rises(keys[rise[len(rise)-1]], key)) {
			rise = append(rise, i)
			left--
		}
	}
	return rise
}

// chainsFrom returns for each index how many keys there are in the longest row that begins there and in which each key follows the one ahead of it.
func chainsFrom(keys []int, follows func(ahead, key int) bool) row {
	var lengths row
	for i := len(keys) - 1; i >= 0; i-- {
		lengths[i] = 1
		for j := i + 1; j < len(keys); j++ {
			if follows(keys[i], keys[j]) {
				lengths[i] = max(lengths[i], 1+lengths[j])
			}
		}
	}
	return lengths
}

// RemovalsOf returns how many keys must be removed.
func RemovalsOf(keys []int) int {
	if !ValidKeys(keys) {
		return -1
	}
	return len(keys) - len(LongestRise(keys))
}

// ExchangesOf returns how many keys must be exchanged.
func ExchangesOf(keys []int) int {
	if !ValidKeys(keys) {
		return -1
	}
	places := PlacesOf(keys)
	var seen [MaxKeys]bool
	circles := 0
	for i := range places {
		if !seen[i] {
			circles++
		}
		for at := i; !seen[at]; at = places[at] {
			seen[at] = true
		}
	}
	return len(keys) - circles
}

// MisplacedOf returns how many keys are not at their places.
func MisplacedOf(keys []int) int {
	if !ValidKeys(keys) {
		return -1
	}
	misplaced := 0
	for i, place := range PlacesOf(keys) {
		if place != i {
			misplaced++
		}
	}
	return misplaced
}

// FarthestOf returns how far a key is from its place at most.
func FarthestOf(keys []int) int {
	if !ValidKeys(keys) {
		return -1
	}
	farthest := 0
	for i, place := range PlacesOf(keys) {
		farthest = max(farthest, place-i, i-place)
	}
	return farthest
}

// WidestOf returns how far apart a wrong pair stands at most.
func WidestOf(keys []int) int {
	if !ValidKeys(keys) {
		return -1
	}
	widest := 0
	for i := range keys {
		for j := i + 1; j < len(keys); j++ {
			if falls(keys[i], keys[j]) {
				widest = max(widest, j-i)
			}
		}
	}
	return widest
}

// PilesOf returns keys in piles that do not fall.
func PilesOf(keys []int) [][]int {
	if !ValidKeys(keys) {
		return nil
	}
	var piles [][]int
	for _, key := range keys {
		at := pileFor(piles, key)
		if at == len(piles) {
			piles = append(piles, nil)
		}
		piles[at] = append(piles[at], key)
	}
	return piles
}

// pileFor returns the index of the first pile on which a key may be put, or that of a new one.
func pileFor(piles [][]int, key int) int {
	for i, pile := range piles {
		if rises(pile[len(pile)-1], key) {
			return i
		}
	}
	return len(piles)
}

// LongestFall returns the length of the longest row that falls.
func LongestFall(keys []int) int {
	if !ValidKeys(keys) {
		return -1
	}
	lengths := chainsFrom(keys, falls)
	return slices.Max(lengths[:])
}

// SwingsOf returns how many keys lie between neighbours.
func SwingsOf(keys []int) int {
	if !ValidKeys(keys) {
		return -1
	}
	swings := 0
	for i := 1; i < len(keys); i++ {
		swings += between(keys, keys[i-1], keys[i])
	}
	return swings
}

// between returns how many keys are greater than one of two numbers and less than the other one.
func between(keys []int, a, b int) int {
	count := 0
	for _, key := range keys {
		if min(a, b) < key && key < max(a, b) {
			count++
		}
	}
	return count
}

// BreaksOf returns how many neighbours are no neighbours when sorted.
func BreaksOf(keys []int) int {
	if !ValidKeys(keys) {
		return -1
	}
	return breaksIn(PlacesOf(keys), func(ahead, place int) bool {
		return place == ahead+1
	})
}

// breaksIn returns how many times the next one does not follow, from -1 to each of the places and to their number at last.
func breaksIn(places []int, follows func(ahead, place int) bool) int {
	breaks, ahead := 0, -1
	for _, place := range append(slices.Clone(places), len(places)) {
		if !follows(ahead, place) {
			breaks++
		}
		ahead = place
	}
	return breaks
}

// MeasureOf returns the measure of a name.
func MeasureOf(name string, keys []int) (int, bool) {
	count, ok := measuresByName()[name]
	if !ok || !ValidKeys(keys) {
		return 0, false
	}
	return count(keys), true
}

// measuresByName returns the measures of valid keys. All of them are 0 for sorted keys.
func measuresByName() map[string]measure {
	return map[string]measure{
		"inversions": InversionsOf,
		"removals":   RemovalsOf,
		"exchanges":  ExchangesOf,
		"misplaced":  MisplacedOf,
		"farthest":   FarthestOf,
		"widest":     WidestOf,
		"swings":     SwingsOf,
		"breaks":     BreaksOf,
		"runs":       runsButOne,
		"piles":      pilesButOne,
	}
}

// runsButOne returns the number of runs less 1; no keys have none to leave out.
func runsButOne(keys []int) int {
	return max(len(RunsOf(keys))-1, 0)
}

// pilesButOne returns the number of piles less 1; no keys have none to leave out.
func pilesButOne(keys []int) int {
	return max(len(PilesOf(keys))-1, 0)
}
