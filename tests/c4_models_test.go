package tests

import (
	"slices"
	"testing"

	"loop.example/measuredsorts/impl"
)

// stepNames are the names of all steps.
var stepNames = []string{"adjacent", "exchange", "turn", "flip", "put"}

// noSteps are names of no step.
var noSteps = []string{"", "roll", "Adjacent", "adjacent ", " turn", "turns", "tur", "flip\n", "put,exchange", "inversions", "\x00", "push", "ADJACENT"}

// someOrders returns all orders that are valid.
func someOrders() [][]int {
	return slices.Concat(sortedOrders...)
}

// badOrders returns numbers that are no order.
func badOrders() [][]int {
	bad := [][]int{
		{1}, {-1}, {2}, {0, 0}, {1, 1}, {0, 2}, {1, 2}, {2, 0}, {-1, 0}, {0, -1}, {1, 0, 1}, {0, 0, 1}, {2, 2, 2}, {0, 1, 3}, {3, 1, 2},
		{0, 1, 2, 2}, {4, 3, 2, 1}, {0, 1, 2, 3, 5}, {0, 1, 2, 3, 3}, {1, 2, 3, 4, 5}, {0, 1, 2, 3, -1}, {1 << 62, 0}, {0, -1 << 63}, {1<<63 - 1},
		{0, 1, 2, 3, 4, 5}, {5, 4, 3, 2, 1, 0}, {0, 1, 2, 3, 4, 4}, make([]int, impl.MaxOrder+1), make([]int, 1000),
	}
	return append(bad, orders(impl.MaxOrder + 1)[7], orders(impl.MaxOrder + 2)[100])
}

// differing returns the places at which the orders differ.
func differing(p, q []int) []int {
	var places []int
	for i := range p {
		if p[i] != q[i] {
			places = append(places, i)
		}
	}
	return places
}

// isTurn reports whether a turned piece of p makes it q.
func isTurn(p, q []int) bool {
	places := differing(p, q)
	if len(places) == 0 {
		return false
	}
	from, to := places[0], places[len(places)-1]+1
	return slices.Equal(turned(p[from:to]), q[from:to])
}

// isPut reports whether the orders differ, but are the same without some number.
func isPut(p, q []int) bool {
	return !slices.Equal(p, q) && slices.ContainsFunc(p, func(number int) bool {
		other := func(v int) bool { return v == number }
		return slices.Equal(slices.DeleteFunc(slices.Clone(p), other), slices.DeleteFunc(slices.Clone(q), other))
	})
}

// isStep reports whether a step makes q of p. It holds them against each other, and makes no steps.
func isStep(name string, p, q []int) bool {
	places := differing(p, q)
	switch name {
	case "adjacent":
		return len(places) == 2 && places[1] == places[0]+1
	case "exchange":
		return len(places) == 2
	case "turn":
		return isTurn(p, q)
	case "flip":
		return isTurn(p, q) && places[0] == 0
	default:
		return isPut(p, q)
	}
}

// stepsModelFrom returns all orders, sorted, that a step makes of p.
func stepsModelFrom(name string, p []int) [][]int {
	var made [][]int
	for _, q := range sortedOrders[len(p)] {
		if isStep(name, p, q) {
			made = append(made, q)
		}
	}
	return made
}

// apartModel returns for each two of the sorted orders of n numbers how many steps they are apart. Ways by each order in turn are tried.
func apartModel(name string, n int) [][]int {
	all := sortedOrders[n]
	apart := make([][]int, len(all))
	for i, p := range all {
		for j, q := range all {
			steps := 1000
			if i == j {
				steps = 0
			} else if isStep(name, p, q) {
				steps = 1
			}
			apart[i] = append(apart[i], steps)
		}
	}
	for by := range all {
		for i := range all {
			for j := range all {
				apart[i][j] = min(apart[i][j], apart[i][by]+apart[by][j])
			}
		}
	}
	return apart
}

// wayModel returns the least one, place by place and order by order, of all shortest ways.
func wayModel(name string, apart [][]int, p, q int, all [][]int) [][]int {
	way := [][]int{all[p]}
	for p != q {
		p = slices.IndexFunc(all, func(order []int) bool {
			next, _ := slices.BinarySearchFunc(all, order, slices.Compare)
			return isStep(name, all[p], order) && apart[next][q] == apart[p][q]-1
		})
		way = append(way, all[p])
	}
	return way
}

// somePairs returns pairs of indices of the sorted orders of n numbers: all of few numbers, and some of MaxOrder numbers.
func somePairs(n int) [][2]int {
	var some [][2]int
	for i := range sortedOrders[n] {
		for j := range sortedOrders[n] {
			if n < impl.MaxOrder || (7*i+3*j)%67 == 0 {
				some = append(some, [2]int{i, j})
			}
		}
	}
	return some
}

// cyclesOf returns how many cycles the order has.
func cyclesOf(p []int) int {
	seen, cycles := make([]bool, len(p)), 0
	for i := range p {
		if !seen[i] {
			cycles++
		}
		for ; !seen[i]; i = p[i] {
			seen[i] = true
		}
	}
	return cycles
}

// relativeModel returns for each number of p, in order, where it is in q.
func relativeModel(p, q []int) []int {
	where := map[int]int{}
	for place, number := range q {
		where[number] = place
	}
	var places []int
	for _, number := range p {
		places = append(places, where[number])
	}
	return places
}

// turnBreaksModel counts the neighbours of the order, with -1 ahead of it and its length behind it, that differ by more than 1.
func turnBreaksModel(p []int) int {
	list := slices.Concat([]int{-1}, p, []int{len(p)})
	count := 0
	for i := range len(list) - 1 {
		if difference := list[i+1] - list[i]; difference*difference != 1 {
			count++
		}
	}
	return count
}

func TestStepsOfModelsGoBack(t *testing.T) {
	for _, name := range stepNames {
		for n := range impl.MaxOrder + 1 {
			apart := apartModel(name, n)
			for i := range apart {
				for j := range apart {
					if apart[i][j] != apart[j][i] || apart[i][j] > 10 {
						t.Fatalf("%s: %v and %v are %d and %d apart", name, sortedOrders[n][i], sortedOrders[n][j], apart[i][j], apart[j][i])
					}
				}
			}
		}
	}
}
