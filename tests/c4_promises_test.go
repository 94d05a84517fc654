package tests

import (
	"slices"
	"testing"

	"loop.example/measuredsorts/impl"
)

// has reports whether the order is one of the list.
func has(list [][]int, order []int) bool {
	return slices.ContainsFunc(list, func(other []int) bool { return slices.Equal(order, other) })
}

// inverse returns for each place which place of the order has its number.
func inverse(p []int) []int {
	places := make([]int, len(p))
	for i, number := range p {
		places[number] = i
	}
	return places
}

func TestPromise42OrdersAreTheirOwnPlaces(t *testing.T) {
	for n := range impl.MaxOrder + 1 {
		values := []int{-1}
		for number := range n + 1 {
			values = append(values, number)
		}
		for _, p := range allLists(n, values) {
			valid := impl.ValidOrder(p)
			holds(t, !valid || slices.Equal(impl.PlacesOf(p), p), p, "the places of an order are the order")
			holds(t, valid == has(sortedOrders[n], p), p, "numbers are an order if each comes once")
		}
	}
	for _, p := range orders(impl.MaxOrder + 1) {
		holds(t, slices.Equal(impl.PlacesOf(p), p) && !impl.ValidOrder(p), p, "longer ones are no orders")
	}
}

func TestPromise43StepsGoBack(t *testing.T) {
	for _, name := range stepNames {
		for _, p := range someOrders() {
			steps := impl.StepsFrom(name, p)
			holds(t, slices.EqualFunc(steps, stepsModelFrom(name, p), slices.Equal), p, "all orders that a step makes")
			for i, q := range steps {
				holds(t, impl.ValidOrder(q) && len(q) == len(p), p, "a step makes orders")
				holds(t, !slices.Equal(q, p), p, "none is the order")
				holds(t, i == 0 || slices.Compare(steps[i-1], q) < 0, p, "steps are sorted, each once")
				holds(t, has(impl.StepsFrom(name, q), p), p, "steps go back")
			}
		}
	}
}

func TestPromise44StepsAreCountedByMeasures(t *testing.T) {
	measures := map[string]func([]int) int{"adjacent": impl.InversionsOf, "exchange": impl.ExchangesOf, "put": impl.RemovalsOf}
	for n := range impl.MaxOrder + 1 {
		for _, pair := range somePairs(n) {
			p, q := sortedOrders[n][pair[0]], sortedOrders[n][pair[1]]
			relative, ok := impl.RelativeOf(p, q)
			holds(t, ok && slices.Equal(relative, relativeModel(p, q)), p, "the relative order")
			for _, name := range stepNames {
				apart := impl.StepsApart(name, p, q)
				holds(t, apart == impl.StepsApart(name, q, p), p, "the same both ways")
				holds(t, apart >= 0 && (apart == 0) == slices.Equal(p, q), p, "0 for the order itself alone")
				if measure := measures[name]; measure != nil {
					holds(t, apart == measure(relative), p, "steps are counted by the measure of the relative order")
				}
			}
			holds(t, impl.StepsApart("adjacent", p, q) == inversions(relativeModel(p, q)), p, "adjacent steps are inversions")
			holds(t, impl.StepsApart("exchange", p, q) == n-cyclesOf(relativeModel(p, q)), p, "exchanges are all but the cycles")
			holds(t, 2*impl.StepsApart("turn", p, q) >= turnBreaksModel(relativeModel(p, q)), p, "a turn mends two breaks at most")
		}
	}
}

func TestPromise45WaysAreShortest(t *testing.T) {
	for _, name := range stepNames {
		for n := range impl.MaxOrder + 1 {
			apart := apartModel(name, n)
			for _, pair := range somePairs(n) {
				p, q := sortedOrders[n][pair[0]], sortedOrders[n][pair[1]]
				way := impl.WayBetween(name, p, q)
				holds(t, len(way) == impl.StepsApart(name, p, q)+1, p, "as many steps as StepsApart")
				holds(t, len(way) == apart[pair[0]][pair[1]]+1, p, "no way is shorter")
				holds(t, slices.Equal(way[0], p) && slices.Equal(way[len(way)-1], q), p, "from the one to the other one")
				for i := 1; i < len(way); i++ {
					steps := impl.StepsFrom(name, way[i-1])
					holds(t, has(steps, way[i]), p, "each is one of StepsFrom the one ahead")
					first := slices.IndexFunc(steps, func(order []int) bool {
						at, _ := slices.BinarySearchFunc(sortedOrders[n], order, slices.Compare)
						return apart[at][pair[1]] == len(way)-1-i
					})
					holds(t, slices.Equal(steps[first], way[i]), p, "the first one that is nearer")
				}
			}
		}
	}
}

func TestPromise46AllOrdersAreReached(t *testing.T) {
	for _, name := range stepNames {
		for n := range impl.MaxOrder + 1 {
			shells := impl.ShellsOf(name, n)
			holds(t, sum(shells) == factorial(n), shells, "together they are the product of the numbers")
			holds(t, shells[0] == 1, shells, "they begin with 1")
			counts := make([]int, len(shells))
			for _, steps := range apartModel(name, n)[0] {
				holds(t, steps < len(shells), shells, "up to the greatest number")
				counts[steps]++
			}
			holds(t, slices.Equal(shells, counts), shells, "each order is counted where it is")
		}
	}
	holds(t, len(impl.ShellsOf("turn", impl.MaxOrder+1)) == 0 && len(impl.ShellsOf("turn", -1)) == 0, nil, "none beyond the limits")
}

func TestPromise47RelativeOrdersTurnRound(t *testing.T) {
	for n := range impl.MaxOrder + 1 {
		for _, p := range sortedOrders[n] {
			for _, q := range sortedOrders[n] {
				one, ok := impl.RelativeOf(p, q)
				other, ok2 := impl.RelativeOf(q, p)
				holds(t, ok && ok2 && impl.ValidOrder(one) && len(one) == n, p, "relative orders are orders")
				holds(t, slices.Equal(one, relativeModel(p, q)), p, "places of the one in the other")
				holds(t, slices.Equal(other, inverse(one)), p, "exchanged it is the inverse")
				holds(t, impl.InversionsOf(one) == impl.InversionsOf(other), p, "as many inversions")
				holds(t, slices.Equal(one, sortedOrders[n][0]) == slices.Equal(p, q), p, "of an order and itself alone it rises")
			}
		}
	}
}

func TestPromise48TurnedNeighboursAreNeighbours(t *testing.T) {
	for _, p := range someOrders() {
		breaks := impl.TurnBreaks(p)
		holds(t, 0 <= breaks && breaks <= impl.BreaksOf(p), p, "at most BreaksOf")
		holds(t, (breaks == 0) == sorted(p), p, "0 for rising orders alone")
		holds(t, breaks == turnBreaksModel(p), p, "neighbours that are no neighbours are counted")
		rising := sortedOrders[len(p)][0]
		holds(t, 2*impl.StepsApart("turn", p, rising) >= breaks, p, "a turn mends two breaks at most")
	}
}
