package tests

import (
	"slices"
	"strings"
	"testing"

	"loop.example/measuredsorts/impl"
)

// isThree reports whether a stack does not sort the three: the last one is less than the first one, and this less than the second one.
func isThree(first, second, third int) bool {
	return third < first && first < second
}

func TestPromise61TheGreatestKeyLeavesLast(t *testing.T) {
	for _, keys := range someKeys() {
		pass := impl.StackPass(keys)
		holds(t, slices.Equal(slices.Sorted(slices.Values(pass)), impl.SortedKeys(keys)), keys, "StackPass has the same keys")
		holds(t, len(keys) == 0 || pass[len(pass)-1] == slices.Max(keys), keys, "it ends with the greatest one")
		holds(t, !sorted(keys) || slices.Equal(pass, keys), keys, "sorted ones stay")
		holds(t, slices.Equal(pass, stackModel(keys)), keys, "the greatest one is behind both parts")
	}
}

func TestPromise62AStackSortsWhatHasNoThree(t *testing.T) {
	for _, keys := range someKeys() {
		is, three := impl.IsStackable(keys), impl.HasThree(keys)
		holds(t, is == !three, keys, "IsStackable holds exactly if HasThree does not")
		holds(t, is == sorted(stackModel(keys)), keys, "IsStackable holds exactly if a stack sorts them")
		holds(t, three == anyThree(keys, isThree), keys, "HasThree holds exactly if there are three")
	}
}

func TestPromise63FewPassesAreEnough(t *testing.T) {
	for _, keys := range someKeys() {
		passes := impl.StackPasses(keys)
		holds(t, 0 <= passes && passes <= max(len(keys)-1, 0), keys, "StackPasses is less than the keys")
		holds(t, (passes == 0) == sorted(keys), keys, "0 for sorted ones alone")
		holds(t, (passes <= 1) == impl.IsStackable(keys), keys, "at most 1 exactly if IsStackable holds")
		holds(t, passes == passesModel(keys, stackModel), keys, "as many as it takes")
	}
	for n := 1; n <= impl.MaxKeys; n++ {
		keys := append(ascending(n)[1:], 0)
		holds(t, impl.StackPasses(keys) == n-1, keys, "1 less than the keys if the least one is the last")
	}
}

func TestPromise64SortedKeysHaveNoThree(t *testing.T) {
	for _, keys := range slices.Concat(someKeys(), someSorted(), allLists(3, []int{-impl.MaxKey, -1, 0, 1, impl.MaxKey})) {
		three := impl.HasThree(keys)
		holds(t, !three || !sorted(keys), keys, "HasThree does not hold of sorted keys")
		holds(t, !three || len(keys) >= 3, keys, "HasThree does not hold of fewer than three")
		holds(t, three == anyThree(keys, isThree), keys, "HasThree holds of all others that have three")
	}
}

func TestPromise65TurnedPiecesHaveFewerInversions(t *testing.T) {
	for _, keys := range someKeys() {
		pass := impl.PopPass(keys)
		holds(t, slices.Equal(slices.Sorted(slices.Values(pass)), impl.SortedKeys(keys)), keys, "PopPass has the same keys")
		holds(t, inversions(pass) < inversions(keys) || sorted(keys), keys, "fewer inversions")
		holds(t, !sorted(keys) || slices.Equal(pass, keys), keys, "sorted ones stay")
		holds(t, slices.Equal(pass, popModel(keys)), keys, "each longest piece that falls is turned round")
	}
}

func TestPromise66FewTurnsAreEnough(t *testing.T) {
	for _, keys := range someKeys() {
		passes := impl.PopPasses(keys)
		holds(t, 0 <= passes && passes <= max(len(keys)-1, 0), keys, "PopPasses is less than the keys")
		holds(t, (passes == 0) == sorted(keys), keys, "0 for sorted ones alone")
		holds(t, passes == passesModel(keys, popModel), keys, "as many as it takes")
	}
	for n := 2; n <= impl.MaxKeys; n++ {
		holds(t, impl.PopPasses(turned(ascending(n))) == 1, turned(ascending(n)), "1 if all keys fall")
	}
}

// holdsAt fails the test for the text if a promise about it is broken.
func holdsAt(t *testing.T, ok bool, text, what string) {
	t.Helper()
	if !ok {
		t.Fatalf("%q: not so: %s", text, what)
	}
}

func TestPromise67MovesHaveOrders(t *testing.T) {
	for _, moves := range slices.Concat(someTextsOfMoves(), badMoves()) {
		valid, order := impl.ValidMoves(moves), impl.OrderOfMoves(moves)
		holdsAt(t, valid == isMoves(moves), moves, "moves are as many letters i and o, none of which leaves too early")
		if !valid {
			holdsAt(t, len(order) == 0, moves, "what is no moves has no order")
			continue
		}
		holdsAt(t, strings.Count(moves, "i") == strings.Count(moves, "o"), moves, "moves put as many numbers as they let leave")
		holdsAt(t, 2*len(order) == len(moves), moves, "OrderOfMoves is half as long")
		holdsAt(t, slices.Equal(slices.Sorted(slices.Values(order)), ascending(len(order))), moves, "each number leaves once")
	}
}

func TestPromise68MovesAreReadBack(t *testing.T) {
	for n := range impl.MaxKeys + 1 {
		for _, moves := range movesModel(n) {
			order := impl.OrderOfMoves(moves)
			holdsAt(t, impl.ValidMoves(moves) && slices.Equal(order, orderModel(moves)), moves, "the order is that of the moves")
			back, ok := impl.MovesOfOrder(order)
			holdsAt(t, ok && back == moves, moves, "MovesOfOrder of OrderOfMoves is the moves")
		}
	}
}

func TestPromise69OrdersWithNoThreeLeaveAStack(t *testing.T) {
	for n := range impl.MaxKeys + 1 {
		count := 0
		for _, order := range orders(n) {
			moves, ok := impl.MovesOfOrder(order)
			three := anyThree(order, func(first, second, third int) bool { return second < third && third < first })
			holds(t, ok == !three, order, "there are none exactly if three are so")
			if !ok {
				holds(t, moves == "", order, "there is no text without moves")
				continue
			}
			holds(t, isMoves(moves) && slices.Equal(impl.OrderOfMoves(moves), order), order, "OrderOfMoves of MovesOfOrder is the order")
			count++
		}
		holds(t, count == impl.CountMoves(n), []int{n}, "as many orders have moves as there are moves")
	}
	for _, numbers := range badNumbers() {
		moves, ok := impl.MovesOfOrder(numbers)
		holds(t, moves == "" && !ok, numbers, "other numbers have none")
	}
}

func TestPromise70MovesPartAtTheFirstReturn(t *testing.T) {
	for n := range impl.MaxCountMoves + 1 {
		together := 0
		for inside := range n {
			together += impl.CountMoves(inside) * impl.CountMoves(n-1-inside)
		}
		holds(t, impl.CountMoves(n) == max(together, 1), []int{n}, "the sum of products of two that are together 1 less")
		if n <= impl.MaxKeys+1 {
			texts := movesModel(n)
			slices.Sort(texts)
			holds(t, len(slices.Compact(texts)) == impl.CountMoves(n), []int{n}, "as many as can be told one by one")
		}
	}
	holds(t, impl.CountMoves(-1) == -1 && impl.CountMoves(impl.MaxCountMoves+1) == -1, nil, "none beyond the limits")
}

func TestPromise71KeysAreReadBack(t *testing.T) {
	lists := someKeys()
	for key := -impl.MaxKey; key <= impl.MaxKey; key++ {
		lists = append(lists, []int{key}, []int{key, 0}, []int{0, key}, slices.Repeat([]int{key}, impl.MaxKeys))
	}
	for _, keys := range lists {
		text := impl.KeysText(keys)
		back, ok := impl.ParseKeys(text)
		holds(t, ok && slices.Equal(back, keys), keys, "ParseKeys of KeysText is the keys")
		holds(t, text == writtenKeys(keys), keys, "in decimal, with a comma between two of them")
	}
}

func TestPromise72TextsOfKeysAreWrittenBack(t *testing.T) {
	for _, text := range someTexts() {
		keys, ok := impl.ParseKeys(text)
		holdsAt(t, ok == isKeysText(text), text, "texts are those of keys by their rule")
		if ok {
			holdsAt(t, impl.ValidKeys(keys) && impl.KeysText(keys) == text, text, "KeysText of ParseKeys is the text")
			holdsAt(t, slices.Equal(keys, readKeys(text)), text, "the keys are those of the text")
		} else {
			holdsAt(t, len(keys) == 0, text, "another text has no keys")
		}
	}
}

func TestPromise73EachLineHasAnAnswer(t *testing.T) {
	for lines := range slices.Chunk(someLines(), impl.MaxDesk) {
		all := impl.RunDesk(lines)
		for n := range len(lines) + 1 {
			answers := impl.RunDesk(lines[:n])
			holdsAt(t, strings.Count(answers, "\n") == n, answers, "as many newlines as there are lines")
			holdsAt(t, n == 0 || strings.HasSuffix(answers, "\n"), answers, "a newline after each answer")
			holdsAt(t, strings.HasPrefix(all, answers), all, "the answers to the first lines are the beginning of all")
			if n > 0 {
				holdsAt(t, answers == impl.RunDesk(lines[:n-1])+impl.RunDesk(lines[n-1:n]), answers, "a line is answered alone as behind others")
			}
		}
	}
	holdsAt(t, impl.RunDesk(make([]string, impl.MaxDesk+1)) == "", "", "one line too many has no answer")
}
