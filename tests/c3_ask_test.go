package tests

import (
	"slices"
	"testing"

	"loop.example/measuredsorts/impl"
)

// workedFacts are facts with what chapter 3 says of them, worked out by hand. A question of no items is that there is none.
var workedFacts = []struct {
	about
	known         []impl.Fact
	orders        [][]int
	question      []int
	least, bound  int
	picks         []int
	splits        [][4]int // two items, in how many orders the first one is ahead, and in how many it is not
	countOfOrders int      // if the orders are too many to be written here
}{
	{about: about{0, nil}, orders: [][]int{{}}},
	{about: about{1, nil}, orders: [][]int{{0}}, picks: []int{0}},
	{about: about{2, nil}, orders: [][]int{{0, 1}, {1, 0}}, question: []int{0, 1}, least: 1, bound: 1, picks: []int{1, 1},
		splits: [][4]int{{0, 1, 1, 1}, {1, 0, 1, 1}}},
	{about: about{2, facts(1, 0)}, known: facts(1, 0), orders: [][]int{{1, 0}}, picks: []int{0, 0},
		splits: [][4]int{{0, 1, 0, 1}, {1, 0, 1, 0}}},
	{about: about{3, nil}, orders: [][]int{{0, 1, 2}, {0, 2, 1}, {1, 0, 2}, {1, 2, 0}, {2, 0, 1}, {2, 1, 0}},
		question: []int{0, 1}, least: 3, bound: 3, picks: []int{2, 3, 2}, splits: [][4]int{{0, 2, 3, 3}, {2, 1, 3, 3}}},
	{about: about{3, facts(2, 0)}, known: facts(2, 0), orders: [][]int{{1, 2, 0}, {2, 0, 1}, {2, 1, 0}},
		question: []int{0, 1}, least: 2, bound: 2, picks: []int{1, 2, 1},
		splits: [][4]int{{0, 1, 1, 2}, {1, 0, 2, 1}, {0, 2, 0, 3}, {2, 0, 3, 0}, {1, 2, 1, 2}, {2, 1, 2, 1}}},
	// Here the best question is about the items at both ends.
	{about: about{3, facts(0, 1)}, known: facts(0, 1), orders: [][]int{{0, 1, 2}, {0, 2, 1}, {2, 0, 1}},
		question: []int{0, 2}, least: 2, bound: 2, picks: []int{1, 2, 1}, splits: [][4]int{{0, 2, 2, 1}, {1, 2, 1, 2}, {0, 1, 3, 0}}},
	{about: about{3, facts(0, 2, 0, 1)}, known: facts(0, 1, 0, 2), orders: [][]int{{0, 1, 2}, {0, 2, 1}},
		question: []int{1, 2}, least: 1, bound: 1, picks: []int{0, 1, 1}, splits: [][4]int{{1, 2, 1, 1}}},
	{about: about{3, facts(1, 0, 2, 0)}, known: facts(1, 0, 2, 0), orders: [][]int{{1, 2, 0}, {2, 1, 0}},
		question: []int{1, 2}, least: 1, bound: 1, picks: []int{1, 1, 0}},
	// Facts that settle all, some of them by way of others, and twice.
	{about: about{3, facts(1, 2, 0, 1)}, known: facts(0, 1, 0, 2, 1, 2), orders: [][]int{{0, 1, 2}}, picks: []int{0, 0, 0},
		splits: [][4]int{{0, 2, 1, 0}, {2, 0, 0, 1}}},
	{about: about{4, facts(1, 0, 3, 1, 2, 3, 1, 0)}, known: facts(1, 0, 2, 0, 2, 1, 2, 3, 3, 0, 3, 1), orders: [][]int{{2, 3, 1, 0}},
		picks: []int{0, 0, 0, 0}, splits: [][4]int{{2, 0, 1, 0}, {0, 2, 0, 1}}},
	{about: about{5, facts(3, 4, 2, 3, 1, 2, 0, 1)}, known: facts(0, 1, 0, 2, 0, 3, 0, 4, 1, 2, 1, 3, 1, 4, 2, 3, 2, 4, 3, 4),
		orders: [][]int{{0, 1, 2, 3, 4}}},
	{about: about{5, facts(4, 3, 3, 2, 2, 1, 1, 0)}, known: facts(1, 0, 2, 0, 2, 1, 3, 0, 3, 1, 3, 2, 4, 0, 4, 1, 4, 2, 4, 3),
		orders: [][]int{{4, 3, 2, 1, 0}}},
	{about: about{4, nil}, question: []int{0, 1}, least: 5, bound: 5, picks: []int{3, 4, 4, 3}, countOfOrders: 24,
		splits: [][4]int{{0, 3, 12, 12}, {3, 0, 12, 12}}},
	{about: about{4, facts(0, 1, 2, 3)}, known: facts(0, 1, 2, 3),
		orders:   [][]int{{0, 1, 2, 3}, {0, 2, 1, 3}, {0, 2, 3, 1}, {2, 0, 1, 3}, {2, 0, 3, 1}, {2, 3, 0, 1}},
		question: []int{0, 2}, least: 3, bound: 3, picks: []int{1, 2, 2, 1}, splits: [][4]int{{0, 2, 3, 3}, {0, 3, 5, 1}, {1, 2, 1, 5}, {1, 3, 3, 3}}},
	// The least item and the greatest one are known, and nothing else.
	{about: about{4, facts(0, 1, 0, 2, 1, 3, 2, 3)}, known: facts(0, 1, 0, 2, 0, 3, 1, 3, 2, 3), orders: [][]int{{0, 1, 2, 3}, {0, 2, 1, 3}},
		question: []int{1, 2}, least: 1, bound: 1, picks: []int{0, 1, 1, 0}},
	{about: about{5, nil}, question: []int{0, 1}, bound: 7, countOfOrders: 120, splits: [][4]int{{0, 4, 60, 60}, {4, 0, 60, 60}}},
	{about: about{5, facts(0, 1, 1, 2, 2, 3)}, known: facts(0, 1, 0, 2, 0, 3, 1, 2, 1, 3, 2, 3),
		orders:   [][]int{{0, 1, 2, 3, 4}, {0, 1, 2, 4, 3}, {0, 1, 4, 2, 3}, {0, 4, 1, 2, 3}, {4, 0, 1, 2, 3}},
		question: []int{1, 4}, bound: 3, splits: [][4]int{{0, 4, 4, 1}, {1, 4, 3, 2}, {4, 2, 3, 2}, {4, 3, 4, 1}}},
}

func TestWorkedFacts(t *testing.T) {
	for _, w := range workedFacts {
		holdsOf(t, impl.ValidFacts(w.n, w.facts), w.about, "the facts are valid")
		if got := impl.KnownOf(w.n, w.facts); !slices.Equal(got, w.known) {
			t.Errorf("KnownOf(%d, %v) = %v, not %v", w.n, w.facts, got, w.known)
		}
		got := impl.OrdersLeft(w.n, w.facts)
		if w.countOfOrders == 0 && !slices.EqualFunc(got, w.orders, slices.Equal) || w.countOfOrders > 0 && len(got) != w.countOfOrders {
			t.Errorf("OrdersLeft(%d, %v) = %v, not %v", w.n, w.facts, got, w.orders)
		}
		for _, s := range w.splits {
			if yes, no := impl.SplitOf(w.n, w.facts, s[0], s[1]); yes != s[2] || no != s[3] {
				t.Errorf("SplitOf(%d, %v, %d, %d) = %d, %d, not %d, %d", w.n, w.facts, s[0], s[1], yes, no, s[2], s[3])
			}
		}
		if got := impl.BoundOf(w.n, w.facts); got != w.bound {
			t.Errorf("BoundOf(%d, %v) = %d, not %d", w.n, w.facts, got, w.bound)
		}
	}
}

func TestWorkedQuestions(t *testing.T) {
	for _, w := range workedFacts {
		a, b, ok := impl.BestQuestion(w.n, w.facts)
		if want := w.question; ok != (want != nil) || ok && (a != want[0] || b != want[1]) || !ok && (a != 0 || b != 0) {
			t.Errorf("BestQuestion(%d, %v) = %d, %d, %v, not %v", w.n, w.facts, a, b, ok, want)
		}
		if w.n > impl.MaxAsk {
			continue
		}
		if got := impl.LeastAsks(w.n, w.facts); got != w.least {
			t.Errorf("LeastAsks(%d, %v) = %d, not %d", w.n, w.facts, got, w.least)
		}
		for k, want := range w.picks {
			if got := impl.PickAsks(w.n, w.facts, k); got != want {
				t.Errorf("PickAsks(%d, %v, %d) = %d, not %d", w.n, w.facts, k, got, want)
			}
		}
	}
}

func TestFactsFollowTheirRules(t *testing.T) {
	for _, a := range someFacts() {
		left := ordersModel(a)
		holdsOf(t, slices.EqualFunc(impl.OrdersLeft(a.n, a.facts), left, slices.Equal), a, "the orders that agree, sorted")
		holdsOf(t, slices.Equal(impl.KnownOf(a.n, a.facts), knownModel(a.n, left)), a, "what holds in all orders is known, sorted")
		x, y, ok := impl.BestQuestion(a.n, a.facts)
		i, j := 0, 0
		if len(left) > 1 {
			i, j = bestModel(a.n, left)
		}
		holdsOf(t, ok == (len(left) > 1) && x == i && y == j, a, "the best question is the first most even one")
		holdsOf(t, impl.BoundOf(a.n, a.facts) == doubled(len(left)), a, "the bound is that of the orders")
		for x := range a.n {
			for y := range a.n {
				yes, no := impl.SplitOf(a.n, a.facts, x, y)
				i, j := splitModel(left, x, y)
				holdsOf(t, yes == i && no == j || x == y && yes == -1 && no == -1, a, "orders are split")
			}
		}
	}
}

func TestAsksFollowTheirRules(t *testing.T) {
	least, picks := leastModels(), pickModels()
	for _, a := range someFacts() {
		if a.n > impl.MaxAsk {
			continue
		}
		set := setOf(a.n, ordersModel(a))
		holdsOf(t, impl.LeastAsks(a.n, a.facts) == least[a.n].of(set), a, "the fewest questions to sort")
		for k, model := range picks[a.n] {
			holdsOf(t, impl.PickAsks(a.n, a.facts, k) == model.of(set), a, "the fewest questions to pick")
		}
	}
}

func TestWorkedDuels(t *testing.T) {
	duels := [][]impl.Fact{
		nil, nil, facts(0, 1),
		// Of 0 and 1 both answers leave 3 orders. With it, 0 less than 2 leaves 2 orders, and the last question is even.
		facts(0, 1, 0, 2, 1, 2),
	}
	for n, want := range duels {
		if got := impl.Duel(n); !slices.Equal(got, want) {
			t.Errorf("Duel(%d) = %v, not %v", n, got, want)
		}
	}
	for n := range impl.MaxItems + 1 {
		if got, want := impl.Duel(n), duelModel(n); !slices.Equal(got, want) {
			t.Errorf("Duel(%d) = %v, not %v", n, got, want)
		}
	}
}

// duelModel returns the facts of best questions and worst answers, of the orders alone.
func duelModel(n int) []impl.Fact {
	var answers []impl.Fact
	for left := ordersModel(about{n, nil}); len(left) > 1; left = ordersModel(about{n, answers}) {
		a, b := bestModel(n, left)
		if ahead, behind := splitModel(left, a, b); ahead < behind {
			a, b = b, a
		}
		answers = append(answers, impl.Fact{Less: a, More: b})
	}
	return answers
}

func TestChains(t *testing.T) {
	for _, w := range []struct {
		m, k int
		want []impl.Fact
	}{
		{0, 0, nil}, {1, 0, nil}, {0, 1, nil}, {1, 1, nil}, {2, 0, facts(0, 1)}, {0, 2, facts(0, 1)}, {1, 2, facts(1, 2)}, {2, 1, facts(0, 1)},
		{2, 2, facts(0, 1, 2, 3)}, {2, 3, facts(0, 1, 2, 3, 3, 4)}, {3, 2, facts(0, 1, 1, 2, 3, 4)}, {1, 4, facts(1, 2, 2, 3, 3, 4)},
		{4, 1, facts(0, 1, 1, 2, 2, 3)}, {5, 0, facts(0, 1, 1, 2, 2, 3, 3, 4)}, {0, 5, facts(0, 1, 1, 2, 2, 3, 3, 4)},
		{-1, 0, nil}, {0, -1, nil}, {-1, 3, nil}, {3, -1, nil}, {6, 0, nil}, {0, 6, nil}, {6, -1, nil}, {-1, 6, nil}, {3, 3, nil}, {5, 1, nil},
		{1, 5, nil}, {5, 5, nil}, {-1, -1, nil}, {1<<63 - 1, 1<<63 - 1, nil}, {1<<63 - 1, 3, nil}, {-1 << 63, -1 << 63, nil}, {-1 << 63, 1<<63 - 1, nil},
	} {
		if got := impl.ChainFacts(w.m, w.k); !slices.Equal(got, w.want) {
			t.Errorf("ChainFacts(%d, %d) = %v, not %v", w.m, w.k, got, w.want)
		}
	}
	// As many orders as there are ways to choose the places of the first ones.
	for m, counts := range [][]int{{1, 1, 1, 1, 1, 1}, {1, 2, 3, 4, 5}, {1, 3, 6, 10}, {1, 4, 10}, {1, 5}, {1}} {
		for k, want := range counts {
			if got := len(impl.OrdersLeft(m+k, impl.ChainFacts(m, k))); got != want {
				t.Errorf("%d orders of lists of %d and %d, not %d", got, m, k, want)
			}
		}
	}
}

func TestFordMostOfFewAndMany(t *testing.T) {
	for n, want := range []int{0, 0, 1, 3, 5, 7, 10, 13, 16, 19, 22, 26, 30, 34, 38, 42, 46, 50, 54, 58, 62, 66, 71} {
		if got := impl.FordMost(n); got != want {
			t.Errorf("FordMost(%d) = %d, not %d", n, got, want)
		}
	}
	for n := range impl.MaxCount + 1 {
		if got := impl.FordMost(n); got != fordModel(n) {
			t.Errorf("FordMost(%d) = %d, not %d", n, got, fordModel(n))
		}
	}
	for _, n := range []int{-1, -2, -1000, impl.MaxCount + 1, impl.MaxCount + 2, 1 << 40, 1<<63 - 1, -1 << 63} {
		if got := impl.FordMost(n); got != -1 {
			t.Errorf("FordMost(%d) = %d, not -1", n, got)
		}
	}
}

func TestLimitsOfFacts(t *testing.T) {
	if impl.MaxItems != 5 || impl.MaxFacts != 20 || impl.MaxAsk != 4 {
		t.Errorf("MaxItems = %d, MaxFacts = %d, MaxAsk = %d", impl.MaxItems, impl.MaxFacts, impl.MaxAsk)
	}
	all := about{5, slices.Repeat(facts(3, 4), impl.MaxFacts)}
	for _, a := range append(someFacts(), all) {
		holdsOf(t, impl.ValidFacts(a.n, a.facts), a, "valid facts")
	}
	holdsOf(t, len(impl.OrdersLeft(all.n, all.facts)) == 60, all, "one fact leaves half of the orders, also if it comes MaxFacts times")
}

func TestInvalidFacts(t *testing.T) {
	for _, a := range badFacts() {
		holdsOf(t, !impl.ValidFacts(a.n, a.facts), a, "not valid")
		holdsOf(t, len(impl.KnownOf(a.n, a.facts)) == 0, a, "nothing is known")
		holdsOf(t, len(impl.OrdersLeft(a.n, a.facts)) == 0, a, "no orders are left, not even an empty one")
		yes, no := impl.SplitOf(a.n, a.facts, 0, 1)
		holdsOf(t, yes == -1 && no == -1, a, "nothing to split")
		x, y, ok := impl.BestQuestion(a.n, a.facts)
		holdsOf(t, x == 0 && y == 0 && !ok, a, "no question")
		holdsOf(t, impl.LeastAsks(a.n, a.facts) == -1, a, "no number of questions to sort")
		for k := -1; k <= impl.MaxItems; k++ {
			holdsOf(t, impl.PickAsks(a.n, a.facts, k) == -1, a, "no number of questions to pick")
		}
		holdsOf(t, impl.BoundOf(a.n, a.facts) == -1, a, "no bound")
	}
	for _, n := range []int{-1, -2, impl.MaxItems + 1, 1000, 1<<63 - 1, -1 << 63} {
		if got := impl.Duel(n); len(got) != 0 {
			t.Errorf("Duel(%d) = %v, not nil", n, got)
		}
	}
}

func TestInvalidItems(t *testing.T) {
	for n := range impl.MaxItems + 1 {
		a := about{n, nil}
		for _, items := range [][2]int{{0, 0}, {n - 1, n - 1}, {0, n}, {n, 0}, {-1, 0}, {0, -1}, {n, n}, {-1, -1}, {n, n + 1}, {1 << 62, 0}, {0, -1 << 63}} {
			yes, no := impl.SplitOf(n, nil, items[0], items[1])
			holdsOf(t, yes == -1 && no == -1, a, "two different items are split")
		}
		for _, k := range []int{-1, n, n + 1, 1 << 62, -1 << 63} {
			holdsOf(t, impl.PickAsks(n, nil, k) == -1, a, "a place is picked from")
		}
	}
}

func TestOneItemMoreThanIsAsked(t *testing.T) {
	settled := facts(0, 1, 1, 2, 2, 3, 3, 4)
	for _, list := range [][]impl.Fact{nil, facts(0, 1), settled} {
		a := about{impl.MaxAsk + 1, list}
		holdsOf(t, impl.LeastAsks(a.n, list) == -1, a, "no number of questions to sort")
		for k := range a.n {
			holdsOf(t, impl.PickAsks(a.n, list, k) == -1, a, "no number of questions to pick")
		}
	}
}

// allAnswers calls each function of chapter 3 that takes facts and returns all of the results.
func allAnswers(n int, list []impl.Fact) (lists [][]impl.Fact, orders [][]int, counts []int) {
	x, y, _ := impl.BestQuestion(n, list)
	yes, no := impl.SplitOf(n, list, 1, 0)
	counts = []int{x, y, yes, no, impl.BoundOf(n, list), impl.LeastAsks(n, list), impl.PickAsks(n, list, 0)}
	lists = [][]impl.Fact{impl.KnownOf(n, list), impl.Duel(n), impl.ChainFacts(n, 0), impl.ChainFacts(1, n-1)}
	return lists, impl.OrdersLeft(n, list), counts
}

func TestMemoryOfAnswersIsOwn(t *testing.T) {
	marked := impl.Fact{Less: mark, More: mark}
	for _, a := range append(mixedFacts(40), about{4, nil}, about{0, nil}, about{3, facts(2, 1)}, about{2, facts(0, 1, 1, 0)}) {
		room := append(slices.Clone(a.facts), marked, marked, marked)
		lists, orders, _ := allAnswers(a.n, room[:len(a.facts)])
		for i, list := range lists {
			for j := range list[:cap(list)] {
				list[:cap(list)][j] = impl.Fact{Less: i, More: mark}
			}
		}
		for i, order := range orders {
			fill(order[:cap(order)], i)
		}
		for i, list := range lists {
			other := slices.ContainsFunc(list[:cap(list)], func(fact impl.Fact) bool { return fact.Less != i })
			holdsOf(t, !other, a, "lists of facts have memory of their own")
		}
		for i, order := range orders {
			other := slices.ContainsFunc(order[:cap(order)], func(item int) bool { return item != i })
			holdsOf(t, !other, a, "orders have memory of their own")
		}
		holdsOf(t, slices.Equal(room, append(slices.Clone(a.facts), marked, marked, marked)), a, "the facts stay as they are")
	}
}

func TestAnswersKeepNoState(t *testing.T) {
	some := append(mixedFacts(40), about{4, nil}, about{0, nil}, about{3, facts(2, 1)}, about{2, facts(0, 1, 1, 0)}, about{-1, nil})
	same := func(a about, list []impl.Fact) bool {
		lists, orders, counts := allAnswers(a.n, a.facts)
		for _, other := range some[:3] { // something else between both
			allAnswers(other.n, other.facts)
		}
		lists2, orders2, counts2 := allAnswers(a.n, list)
		return slices.EqualFunc(lists, lists2, slices.Equal) && slices.EqualFunc(orders, orders2, slices.Equal) && slices.Equal(counts, counts2)
	}
	for _, a := range some {
		holdsOf(t, same(a, slices.Clone(a.facts)), a, "the same again")
	}
	for n := -1; n <= impl.MaxItems+1; n++ {
		holdsOf(t, same(about{n, nil}, []impl.Fact{}), about{n, nil}, "nil and empty facts are the same")
	}
}
