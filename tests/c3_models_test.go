package tests

import (
	"slices"
	"testing"

	"loop.example/measuredsorts/impl"
)

// about is facts about n items.
type about struct {
	n     int
	facts []impl.Fact
}

// facts returns the facts of the items: the first one is less than the second one, the third one than the fourth one, and so on.
func facts(items ...int) []impl.Fact {
	var list []impl.Fact
	for i := 0; i+1 < len(items); i += 2 {
		list = append(list, impl.Fact{Less: items[i], More: items[i+1]})
	}
	return list
}

// opposites returns the facts turned round.
func opposites(list []impl.Fact) []impl.Fact {
	var turned []impl.Fact
	for _, fact := range list {
		turned = append(turned, impl.Fact{Less: fact.More, More: fact.Less})
	}
	return turned
}

// factSets returns all lists of facts about n items, valid or not, that tell nothing of two items twice: of each two of
// them either nothing, or that one is less, or that the other one is.
func factSets(n int) []about {
	all := []about{{n, nil}}
	for more := range n {
		for less := range more {
			for _, a := range slices.Clone(all) {
				for _, fact := range []impl.Fact{{Less: less, More: more}, {Less: more, More: less}} {
					all = append(all, about{n, append(slices.Clone(a.facts), fact)})
				}
			}
		}
	}
	return all
}

// someFacts returns valid facts: all sets of them about up to 4 items, each sixth one of those about 5 items from which no
// others follow, so that the tests take a few seconds, and long lists about 5 items, in no order, in which some come twice.
func someFacts() []about {
	var some []about
	for n := range 5 {
		for _, a := range factSets(n) {
			if len(ordersModel(a)) > 0 {
				some = append(some, a)
			}
		}
	}
	closed := 0
	for _, a := range factSets(5) {
		if closedModel(a.facts) {
			if closed%6 == 0 {
				some = append(some, a)
			}
			closed++
		}
	}
	return append(some, mixedFacts(300)...)
}

// closedModel reports whether all that follows from facts, by way of one other item, is among them.
func closedModel(list []impl.Fact) bool {
	var has [5][5]bool
	for _, fact := range list {
		has[fact.Less][fact.More] = true
	}
	for _, a := range list {
		for _, b := range list {
			if a.More == b.Less && !has[a.Less][b.More] {
				return false
			}
		}
	}
	return true
}

// mixedFacts returns lists of up to MaxFacts valid facts about 5 items, in no order, that follow a fixed rule.
func mixedFacts(count int) []about {
	var some []about
	seed := uint32(1)
	next := func(below int) int {
		seed = seed*1664525 + 1013904223
		return int(seed>>8) % below
	}
	all := orders(5)
	for i := range count {
		order := all[next(len(all))]
		var list []impl.Fact
		for range i % (impl.MaxFacts + 1) {
			more := 1 + next(4)
			list = append(list, impl.Fact{Less: order[next(more)], More: order[more]})
		}
		some = append(some, about{5, list})
	}
	return some
}

// badFacts returns facts that are not valid, or not of that number of items.
func badFacts() []about {
	bad := []about{
		{-1, nil}, {impl.MaxItems + 1, nil}, {impl.MaxItems + 1, facts(0, 1)}, {1 << 62, nil}, {-1 << 63, nil}, {1<<63 - 1, facts(0, 1)},
		{0, facts(0, 1)}, {0, facts(0, 0)}, {1, facts(0, 1)}, {1, facts(1, 0)}, {2, facts(0, 2)}, {2, facts(2, 0)},
		{5, facts(0, 5)}, {5, facts(5, 0)}, {5, facts(-1, 0)}, {5, facts(0, -1)}, {5, facts(0, 1, 1<<62, 1)}, {5, facts(0, 1, 1, -1<<63)},
		{4, facts(0, 4)}, {3, facts(3, 0)}, {2, facts(-1, -1)}, {2, facts(5, 5)},
		{2, facts(0, 1, 1, 0)}, {3, facts(0, 1, 1, 2, 2, 0)}, {4, facts(0, 1, 1, 2, 2, 3, 3, 0)}, {5, facts(0, 1, 1, 2, 2, 3, 3, 4, 4, 0)},
		{5, facts(4, 0, 1, 4, 3, 1, 2, 3, 0, 2)}, {5, facts(0, 1, 2, 3, 3, 4, 4, 2)}, {4, facts(0, 3, 1, 2, 3, 0)}, {4, facts(2, 1, 0, 3, 1, 2)},
		{5, slices.Repeat(facts(0, 1), impl.MaxFacts+1)}, {2, slices.Repeat(facts(1, 0), 1000)},
	}
	for n := 1; n <= 5; n++ { // each item less than itself, alone and behind another fact
		for item := range n {
			bad = append(bad, about{n, facts(item, item)}, about{n, facts((item+1)%n, item, item, item)})
		}
	}
	for n := 2; n <= 4; n++ { // all circles, also those of which no fact is the opposite of another one
		for _, a := range factSets(n) {
			if len(ordersModel(a)) == 0 {
				bad = append(bad, a)
			}
		}
	}
	return bad
}

// ordersModel returns the orders of the items, sorted, in which each fact holds.
func ordersModel(a about) [][]int {
	var left [][]int
	for _, order := range sortedOrders[a.n] {
		if !slices.ContainsFunc(a.facts, func(fact impl.Fact) bool { return !isAhead(order, fact.Less, fact.More) }) {
			left = append(left, order)
		}
	}
	return left
}

// sortedOrders are, for each number of items, all orders, that with the lesser item at the first place where two differ first.
var sortedOrders = func() [][][]int {
	var all [][][]int
	for n := range impl.MaxItems + 1 {
		list := orders(n)
		slices.SortFunc(list, slices.Compare)
		all = append(all, list)
	}
	return all
}()

// isAhead reports whether an item is ahead of another one in the order.
func isAhead(order []int, a, b int) bool {
	for _, item := range order {
		if item == a || item == b {
			return item == a
		}
	}
	return false
}

// splitModel returns in how many orders a is ahead of b, and in how many it is not.
func splitModel(left [][]int, a, b int) (int, int) {
	ahead := 0
	for _, order := range left {
		if isAhead(order, a, b) {
			ahead++
		}
	}
	return ahead, len(left) - ahead
}

// knownModel returns all facts that hold in all orders.
func knownModel(n int, left [][]int) []impl.Fact {
	var known []impl.Fact
	for a := range n {
		for b := range n {
			if ahead, _ := splitModel(left, a, b); a != b && ahead == len(left) {
				known = append(known, impl.Fact{Less: a, More: b})
			}
		}
	}
	return known
}

// bestModel returns the first question of which the answer that leaves more orders leaves the fewest.
func bestModel(n int, left [][]int) (int, int) {
	a, b, fewest := 0, 0, 1000
	for i := range n {
		for j := i + 1; j < n; j++ {
			if ahead, behind := splitModel(left, i, j); max(ahead, behind) < fewest {
				a, b, fewest = i, j, max(ahead, behind)
			}
		}
	}
	return a, b
}

// asksModel searches the fewest questions: orders are bits, and it is tried whether q questions are enough, for q from 0 up.
type asksModel struct {
	aheads []uint32 // for each two items the orders in which the first one is ahead
	enough func(set uint32) bool
	asks   map[uint32]int // of the sets that were searched
}

// asksModelOf returns the model for n items, of at most 4, for which a set is enough if it is empty or all of its orders are said to be alike.
func asksModelOf(n int, alike func(a, b []int) bool) *asksModel {
	all := sortedOrders[n]
	m := &asksModel{asks: map[uint32]int{}}
	for a := range n {
		for b := range a {
			set := uint32(0)
			for i, order := range all {
				if isAhead(order, a, b) {
					set |= 1 << i
				}
			}
			m.aheads = append(m.aheads, set)
		}
	}
	m.enough = func(set uint32) bool {
		return pairs(len(all), func(i, j int) bool {
			return set>>i&1 == 1 && set>>j&1 == 1 && !alike(all[i], all[j])
		}) == 0
	}
	return m
}

// of returns the fewest questions for the set.
func (m *asksModel) of(set uint32) int {
	if q, ok := m.asks[set]; ok {
		return q
	}
	q := 0
	for !m.can(set, q) {
		q++
	}
	m.asks[set] = q
	return q
}

// can reports whether q questions are enough for the set.
func (m *asksModel) can(set uint32, q int) bool {
	if q == 0 {
		return m.enough(set)
	}
	return slices.ContainsFunc(m.aheads, func(ahead uint32) bool {
		yes, no := set&ahead, set&^ahead
		return yes != set && no != set && m.of(yes) < q && m.of(no) < q
	})
}

// setOf returns the set of the orders of n items that are left.
func setOf(n int, left [][]int) uint32 {
	set := uint32(0)
	for i, order := range sortedOrders[n] {
		if slices.ContainsFunc(left, func(other []int) bool { return slices.Equal(order, other) }) {
			set |= 1 << i
		}
	}
	return set
}

// leastModels returns for each number of items the model of LeastAsks.
func leastModels() []*asksModel {
	var models []*asksModel
	for n := range impl.MaxAsk + 1 {
		models = append(models, asksModelOf(n, slices.Equal[[]int]))
	}
	return models
}

// pickModels returns for each number of items, and each place, the model of PickAsks.
func pickModels() [][]*asksModel {
	models := make([][]*asksModel, impl.MaxAsk+1)
	for n := range models {
		for k := range n {
			models[n] = append(models[n], asksModelOf(n, func(a, b []int) bool { return a[k] == b[k] }))
		}
	}
	return models
}

// fordModel is the sum of how often 4 must be doubled to be at least 3*k.
func fordModel(n int) int {
	total := 0
	for k := 1; k <= n; k++ {
		for four := 4; four < 3*k; four *= 2 {
			total++
		}
	}
	return total
}

// holdsOf fails the test for the facts if a promise about them is broken.
func holdsOf(t *testing.T, ok bool, a about, what string) {
	t.Helper()
	if !ok {
		t.Fatalf("%d items, facts %v: not so: %s", a.n, a.facts, what)
	}
}

func TestFactsOfTestsAreAll(t *testing.T) {
	counts := map[int]int{}
	closed := map[int]int{}
	for n := range impl.MaxItems + 1 {
		for _, a := range factSets(n) {
			if len(ordersModel(a)) > 0 {
				counts[n]++
			}
			if closedModel(a.facts) {
				closed[n]++
			}
		}
	}
	// How many graphs without circles there are, and how many partial orders.
	for n, want := range []int{1, 1, 3, 25, 543, 29281} {
		if counts[n] != want {
			t.Errorf("%d lists of valid facts about %d items, not %d", counts[n], n, want)
		}
	}
	for n, want := range []int{1, 1, 3, 19, 219, 4231} {
		if closed[n] != want {
			t.Errorf("%d lists of all that follows about %d items, not %d", closed[n], n, want)
		}
	}
}
