package tests

import (
	"math/big"
	"slices"
	"testing"

	"loop.example/measuredsorts/impl"
)

// factorial returns the product of the numbers up to n.
func factorial(n int) int {
	product := 1
	for k := 2; k <= n; k++ {
		product *= k
	}
	return product
}

func TestPromise29MergingAndHalvingAskAsMuch(t *testing.T) {
	for n := range impl.MaxCount + 1 {
		merge, ford := impl.MergeMost(n), impl.FordMost(n)
		holds(t, merge == impl.BinaryMost(n), []int{n}, "MergeMost is BinaryMost")
		holds(t, merge >= ford && ford >= 0, []int{n}, "no less than FordMost")
		holds(t, ford == fordModel(n), []int{n}, "FordMost is the sum of doublings")
	}
	holds(t, impl.FordMost(-1) == -1 && impl.FordMost(impl.MaxCount+1) == -1, nil, "none beyond the limits")
}

func TestPromise31FactsCanBeCut(t *testing.T) {
	for _, a := range someFacts() {
		holdsOf(t, impl.ValidFacts(a.n, a.facts), a, "valid facts")
		if len(a.facts) > 0 {
			holdsOf(t, impl.ValidFacts(a.n, a.facts[:len(a.facts)-1]), a, "valid without the last one")
		}
		holdsOf(t, impl.ValidFacts(a.n, impl.KnownOf(a.n, a.facts)), a, "what follows is valid")
		for _, fact := range a.facts {
			holdsOf(t, !impl.ValidFacts(a.n, append(slices.Clone(a.facts), opposites([]impl.Fact{fact})...)), a, "not valid with an opposite fact")
		}
		if n := len(a.facts); n > 0 && n <= impl.MaxFacts {
			full := append(slices.Clone(a.facts), slices.Repeat(a.facts[:1], impl.MaxFacts-n)...)
			holdsOf(t, impl.ValidFacts(a.n, full), a, "valid as MaxFacts facts")
			holdsOf(t, !impl.ValidFacts(a.n, append(full, full[0])), a, "not valid as one fact more")
		}
	}
	for _, a := range badFacts() {
		holdsOf(t, !impl.ValidFacts(a.n, a.facts), a, "not valid")
	}
}

func TestPromise32WhatFollowsFollowsOnce(t *testing.T) {
	for _, a := range someFacts() {
		known := impl.KnownOf(a.n, a.facts)
		holdsOf(t, slices.Equal(impl.KnownOf(a.n, known), known), a, "what follows from what follows is the same")
		holdsOf(t, slices.EqualFunc(impl.OrdersLeft(a.n, known), impl.OrdersLeft(a.n, a.facts), slices.Equal), a, "it leaves the same orders")
		for _, fact := range a.facts {
			holdsOf(t, slices.Contains(known, fact), a, "each fact is known")
		}
		for i := 1; i < len(known); i++ {
			one, next := known[i-1], known[i]
			holdsOf(t, one.Less < next.Less || one.Less == next.Less && one.More < next.More, a, "known facts are by Less and by More, each once")
		}
	}
}

func TestPromise33OrdersAgreeWithFacts(t *testing.T) {
	for _, a := range someFacts() {
		left := impl.OrdersLeft(a.n, a.facts)
		holdsOf(t, len(left) > 0, a, "at least one order is left")
		for i, order := range left {
			holdsOf(t, len(order) == a.n && slices.Equal(slices.Sorted(slices.Values(order)), sortedOrders[a.n][0]), a, "orders have each item once")
			holdsOf(t, i == 0 || slices.Compare(left[i-1], order) < 0, a, "orders are sorted, each once")
			for _, fact := range a.facts {
				holdsOf(t, isAhead(order, fact.Less, fact.More), a, "each fact holds in each order")
			}
		}
		holdsOf(t, len(left) == len(ordersModel(a)), a, "all orders that agree are left")
	}
	for n := range impl.MaxItems + 1 {
		holdsOf(t, len(impl.OrdersLeft(n, nil)) == factorial(n), about{n, nil}, "all orders without facts")
	}
}

func TestPromise34WhatHoldsInAllOrdersIsKnown(t *testing.T) {
	for _, a := range someFacts() {
		known, left := impl.KnownOf(a.n, a.facts), len(impl.OrdersLeft(a.n, a.facts))
		for x := range a.n {
			for y := range a.n {
				if x == y {
					continue
				}
				yes, no := impl.SplitOf(a.n, a.facts, x, y)
				holdsOf(t, yes >= 0 && no >= 0 && yes+no == left, a, "both numbers are OrdersLeft")
				holdsOf(t, (no == 0) == slices.Contains(known, impl.Fact{Less: x, More: y}), a, "the second one is 0 exactly if the fact is known")
			}
		}
	}
}

func TestPromise35AThirdIsAlwaysLeft(t *testing.T) {
	for _, a := range someFacts() {
		left := len(impl.OrdersLeft(a.n, a.facts))
		x, y, ok := impl.BestQuestion(a.n, a.facts)
		holdsOf(t, ok == (left > 1), a, "there is a question exactly if two orders are left")
		if !ok {
			holdsOf(t, x == 0 && y == 0, a, "no question is 0 and 0")
			continue
		}
		holdsOf(t, 0 <= x && x < y && y < a.n, a, "the question is about two items, the first one less")
		yes, no := impl.SplitOf(a.n, a.facts, x, y)
		holdsOf(t, 3*max(yes, no) <= 2*left, a, "neither answer leaves more than two thirds")
		for i := range a.n {
			for j := i + 1; j < a.n; j++ {
				p, q := impl.SplitOf(a.n, a.facts, i, j)
				holdsOf(t, max(p, q) >= max(yes, no), a, "no question is more even")
				earlier := i < x || i == x && j < y
				holdsOf(t, max(p, q) > max(yes, no) || !earlier, a, "of several it is the first one")
			}
		}
	}
}

func TestPromise36QuestionsAreAtLeastTheBits(t *testing.T) {
	var without []int
	for n := range impl.MaxAsk + 1 {
		without = append(without, impl.LeastAsks(n, nil))
		holdsOf(t, without[n] == impl.FordMost(n), about{n, nil}, "without facts it is FordMost")
	}
	models := leastModels()
	for _, a := range someFacts() {
		if a.n > impl.MaxAsk {
			continue
		}
		least := impl.LeastAsks(a.n, a.facts)
		holdsOf(t, least == models[a.n].of(setOf(a.n, ordersModel(a))), a, "as few questions as can be")
		holdsOf(t, least >= impl.BoundOf(a.n, a.facts), a, "at least BoundOf")
		holdsOf(t, least <= without[a.n], a, "at most that without facts")
		holdsOf(t, least == impl.LeastAsks(a.n, impl.KnownOf(a.n, a.facts)), a, "the same for what follows")
		holdsOf(t, (least == 0) == (len(impl.OrdersLeft(a.n, a.facts)) == 1), a, "0 for facts that settle all, and for these alone")
	}
	holdsOf(t, impl.LeastAsks(impl.MaxAsk+1, nil) == -1 && impl.LeastAsks(-1, nil) == -1, about{impl.MaxAsk + 1, nil}, "none beyond the limits")
}

func TestPromise37PickingIsNoMoreThanSorting(t *testing.T) {
	models := pickModels()
	for _, a := range someFacts() {
		if a.n > impl.MaxAsk {
			continue
		}
		set := setOf(a.n, ordersModel(a))
		for k := range a.n {
			picks := impl.PickAsks(a.n, a.facts, k)
			holdsOf(t, picks == models[a.n][k].of(set), a, "as few questions as can be")
			holdsOf(t, 0 <= picks && picks <= impl.LeastAsks(a.n, a.facts), a, "at most LeastAsks")
			holdsOf(t, picks == impl.PickAsks(a.n, opposites(a.facts), a.n-1-k), a, "the same for opposite facts at the opposite place")
		}
	}
	for n := 1; n <= impl.MaxAsk; n++ {
		holdsOf(t, impl.PickAsks(n, nil, 0) == n-1 && impl.PickAsks(n, nil, n-1) == n-1, about{n, nil}, "at both ends one less than the items")
		holdsOf(t, impl.PickAsks(n, nil, -1) == -1 && impl.PickAsks(n, nil, n) == -1, about{n, nil}, "none ahead of the first place, and none behind the last one")
	}
	holdsOf(t, impl.PickAsks(0, nil, 0) == -1 && impl.PickAsks(impl.MaxAsk+1, nil, 0) == -1, about{0, nil}, "none beyond the limits")
}

func TestPromise38DuelsEndWithOneOrder(t *testing.T) {
	for n := range impl.MaxItems + 1 {
		duel := impl.Duel(n)
		a := about{n, duel}
		holdsOf(t, len(impl.OrdersLeft(n, duel)) == 1, a, "one order is left")
		holdsOf(t, len(duel) >= impl.BoundOf(n, nil), a, "at least BoundOf no facts")
		for i, fact := range duel {
			x, y, ok := impl.BestQuestion(n, duel[:i])
			holdsOf(t, ok && min(fact.Less, fact.More) == x && max(fact.Less, fact.More) == y, a, "each fact answers the best question")
			yes, no := impl.SplitOf(n, duel[:i], fact.Less, fact.More)
			holdsOf(t, yes > no || yes == no && fact.Less < fact.More, a, "with the answer that leaves more orders, or that the first one is less")
		}
	}
	holdsOf(t, len(impl.Duel(-1)) == 0 && len(impl.Duel(impl.MaxItems+1)) == 0, about{-1, nil}, "none beyond the limits")
}

func TestPromise39BoundsAreBits(t *testing.T) {
	for _, a := range someFacts() {
		bound, left := impl.BoundOf(a.n, a.facts), len(impl.OrdersLeft(a.n, a.facts))
		holdsOf(t, bound >= 0 && 1<<bound >= left, a, "2 to BoundOf is at least OrdersLeft")
		holdsOf(t, 1<<bound < 2*left, a, "and less than twice them")
	}
}

func TestPromise41MergingInsertionIsNearTheBits(t *testing.T) {
	product := big.NewInt(1)
	for n := range impl.MaxCount + 1 {
		if n > 0 {
			product.Mul(product, big.NewInt(int64(n)))
		}
		ford := impl.FordMost(n)
		holds(t, 0 <= ford && ford <= impl.BinaryMost(n), []int{n}, "FordMost is at most BinaryMost")
		power := new(big.Int).Lsh(big.NewInt(1), uint(ford))
		holds(t, power.Cmp(product) >= 0, []int{n}, "2 to FordMost is at least the product of the numbers")
		more := impl.FordMost(min(n+1, impl.MaxCount)) - ford
		holds(t, 0 <= more && more <= doubled(n+1), []int{n}, "one more asks no more than halving does")
	}
}
