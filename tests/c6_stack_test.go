package tests

import (
	"fmt"
	"slices"
	"strings"
	"testing"

	"loop.example/measuredsorts/impl"
)

func TestWorkedStacks(t *testing.T) {
	for _, w := range []struct {
		keys, stack []int
		stackPasses int
		three       bool
		pop         []int
		popPasses   int
	}{
		{nil, nil, 0, false, nil, 0},
		{[]int{7}, []int{7}, 0, false, []int{7}, 0},
		{[]int{-7}, []int{-7}, 0, false, []int{-7}, 0},
		{[]int{1, 2}, []int{1, 2}, 0, false, []int{1, 2}, 0},
		{[]int{2, 1}, []int{1, 2}, 1, false, []int{1, 2}, 1},
		{[]int{2, 2}, []int{2, 2}, 0, false, []int{2, 2}, 0},
		{[]int{2, 3, 1}, []int{2, 1, 3}, 2, true, []int{2, 1, 3}, 2},
		{[]int{3, 1, 2}, []int{1, 2, 3}, 1, false, []int{1, 3, 2}, 2},
		{[]int{3, 2, 1}, []int{1, 2, 3}, 1, false, []int{1, 2, 3}, 1},
		{[]int{1, 3, 2}, []int{1, 2, 3}, 1, false, []int{1, 2, 3}, 1},
		{[]int{2, 2, 1}, []int{1, 2, 2}, 1, false, []int{2, 1, 2}, 2}, // equal keys stay on a stack, but do not fall
		{[]int{2, 1, 1}, []int{1, 1, 2}, 1, false, []int{1, 2, 1}, 2},
		{[]int{1, 2, 1}, []int{1, 1, 2}, 1, false, []int{1, 1, 2}, 1},
		{[]int{1, 2, 2, 1}, []int{1, 1, 2, 2}, 1, false, []int{1, 2, 1, 2}, 2},
		{[]int{2, 3, 3, 1}, []int{2, 1, 3, 3}, 2, true, []int{2, 3, 1, 3}, 3},
		{[]int{1, 1, 0, 0}, []int{0, 0, 1, 1}, 1, false, []int{1, 0, 1, 0}, 3},
		{[]int{2, 3, 4, 1}, []int{2, 3, 1, 4}, 3, true, []int{2, 3, 1, 4}, 3},
		{[]int{3, 1, 4, 2}, []int{1, 3, 2, 4}, 2, true, []int{1, 3, 2, 4}, 2},
		{[]int{4, 3, 2, 1}, []int{1, 2, 3, 4}, 1, false, []int{1, 2, 3, 4}, 1},
		{[]int{99, -99, 99, -99}, []int{-99, -99, 99, 99}, 1, false, []int{-99, 99, -99, 99}, 2},
		{[]int{2, 3, 4, 5, 6, 7, 8, 1}, []int{2, 3, 4, 5, 6, 7, 1, 8}, 7, true, []int{2, 3, 4, 5, 6, 7, 1, 8}, 7},
	} {
		stack, pop := impl.StackPass(w.keys), impl.PopPass(w.keys)
		holds(t, slices.Equal(stack, w.stack), w.keys, fmt.Sprint("StackPass is ", stack))
		holds(t, impl.IsStackable(w.keys) == !w.three, w.keys, "IsStackable")
		holds(t, impl.StackPasses(w.keys) == w.stackPasses, w.keys, fmt.Sprint("StackPasses is ", impl.StackPasses(w.keys)))
		holds(t, impl.HasThree(w.keys) == w.three, w.keys, "HasThree")
		holds(t, slices.Equal(pop, w.pop), w.keys, fmt.Sprint("PopPass is ", pop))
		holds(t, impl.PopPasses(w.keys) == w.popPasses, w.keys, fmt.Sprint("PopPasses is ", impl.PopPasses(w.keys)))
	}
}

func TestWorkedMoves(t *testing.T) {
	for moves, order := range map[string][]int{
		"": nil, "io": {0}, "ioio": {0, 1}, "iioo": {1, 0}, "ioioio": {0, 1, 2}, "ioiioo": {0, 2, 1}, "iiooio": {1, 0, 2}, "iioioo": {1, 2, 0}, "iiiooo": {2, 1, 0},
		"iiioioioiooioo": {2, 3, 4, 5, 1, 6, 0}, "iiiiiiiioooooooo": {7, 6, 5, 4, 3, 2, 1, 0},
		"ioioioioioioioio": {0, 1, 2, 3, 4, 5, 6, 7}, "iiooiiooiiooiioo": {1, 0, 3, 2, 5, 4, 7, 6},
	} {
		if !impl.ValidMoves(moves) || !slices.Equal(impl.OrderOfMoves(moves), order) {
			t.Errorf("OrderOfMoves(%q) = %v, not %v", moves, impl.OrderOfMoves(moves), order)
		}
		if s, ok := impl.MovesOfOrder(order); s != moves || !ok {
			t.Errorf("MovesOfOrder(%v) = %q, %v, not %q", order, s, ok, moves)
		}
	}
	for _, order := range [][]int{{2, 0, 1}, {3, 0, 1, 2}, {0, 3, 1, 2}, {3, 1, 0, 2}, {1, 3, 0, 2}, {2, 0, 1, 3}, {7, 0, 1, 2, 3, 4, 5, 6}, {0, 1, 2, 3, 4, 7, 5, 6}} {
		if s, ok := impl.MovesOfOrder(order); s != "" || ok {
			t.Errorf("MovesOfOrder(%v) = %q, %v", order, s, ok)
		}
	}
}

func TestWorkedCountsOfMoves(t *testing.T) {
	for n, want := range []int{
		1, 1, 2, 5, 14, 42, 132, 429, 1430, 4862, 16796, 58786, 208012, 742900, 2674440, 9694845, 35357670, 129644790, 477638700, 1767263190,
		6564120420, 24466267020, 91482563640, 343059613650, 1289904147324, 4861946401452,
	} {
		if got := impl.CountMoves(n); got != want {
			t.Errorf("CountMoves(%d) = %d, not %d", n, got, want)
		}
	}
	for _, n := range []int{-1 << 63, -2, -1, impl.MaxCountMoves + 1, impl.MaxCountMoves + 2, 1000, 1<<63 - 1} {
		if got := impl.CountMoves(n); got != -1 {
			t.Errorf("CountMoves(%d) = %d, not -1", n, got)
		}
	}
}

func TestWorkedTexts(t *testing.T) {
	for text, keys := range map[string][]int{
		"": nil, "0": {0}, "7": {7}, "-7": {-7}, "99": {99}, "-99": {-99}, "10,-10": {10, -10}, "3,-1,0": {3, -1, 0}, "-5,7": {-5, 7}, "2,2,2": {2, 2, 2}, "0,0": {0, 0},
		"1,2,3,4,5,6,7,8": {1, 2, 3, 4, 5, 6, 7, 8}, "-99,-99,-99,-99,-99,-99,-99,-99": {-99, -99, -99, -99, -99, -99, -99, -99},
	} {
		if got := impl.KeysText(keys); got != text {
			t.Errorf("KeysText(%v) = %q, not %q", keys, got, text)
		}
		if got, ok := impl.ParseKeys(text); !ok || !slices.Equal(got, keys) {
			t.Errorf("ParseKeys(%q) = %v, %v, not %v", text, got, ok, keys)
		}
	}
	for _, text := range slices.Concat(badTexts(), spacedTexts()) {
		if got, ok := impl.ParseKeys(text); ok || len(got) != 0 {
			t.Errorf("ParseKeys(%q) = %v, %v", text, got, ok)
		}
	}
}

func TestWorkedDesk(t *testing.T) {
	for line, want := range map[string]string{
		"inversions 3,1,2": "2", "runs 3,1,2": "1", "removals 3,1,2": "1", "exchanges 3,1,2": "2", "misplaced 3,1,2": "3",
		"farthest 3,1,2": "2", "widest 3,1,2": "2", "piles 3,1,2": "1", "swings 3,1,2": "1", "breaks 3,1,2": "3", "inversions 8,7,6,5,4,3,2,1": "28",
		"sort 3,-1,2": "-1,2,3", "stack 2,3,1": "2,1,3", "pop 3,1,4,2": "1,3,2,4", "rise 3,1,2": "1,2", "rise 1,2,3,4,5,6,7,8": "0,1,2,3,4,5,6,7",
		"inversions ": "0", "runs ": "0", "piles ": "0", "breaks ": "0", "sort ": "", "stack ": "", "pop ": "", "rise ": "", "sort 7": "7", "rise 7": "0", "stack -7": "-7",
		"runs x": "wrong", "stack 100": "wrong", "sort 01": "wrong", "pop 1,": "wrong", "rise -0": "wrong", "breaks 1,1,1,1,1,1,1,1,1": "wrong",
		"sort 1\t2": "wrong", "sort 1\n": "wrong", "swings sort": "wrong",
		"": "what", " ": "what", "help": "what", "sort": "what", "runs": "what", "walk 1": "what", "walk ": "what", "walk x": "what", "sort 1, 2": "what",
		"sort  1": "what", "sort  ": "what", "sort 1 ": "what", " sort 1": "what", " 1": "what", "1": "what", "1,2": "what", "Sort 1": "what",
		"sort\t1": "what", "sort,1": "what", "sort sort 1": "what", "runs x y": "what", "wrong 1": "what", "what": "what", "sort\n1": "what",
	} {
		if got := impl.RunDesk([]string{line}); got != want+"\n" {
			t.Errorf("RunDesk of %q = %q, not %q", line, got, want)
		}
	}
	lines := []string{"sort 2,1", "", "runs 2,1", "runs x", "rise "}
	if got := impl.RunDesk(lines); got != "1,2\nwhat\n1\nwrong\n\n" {
		t.Errorf("RunDesk of %q = %q", lines, got)
	}
}

func TestDeskFollowsItsRule(t *testing.T) {
	for _, line := range someLines() {
		want := "what"
		if word, text, ok := strings.Cut(line, " "); ok {
			want = answerModel(word, text)
		}
		if got := impl.RunDesk([]string{line}); got != want+"\n" {
			t.Errorf("RunDesk of %q = %q, not %q", line, got, want)
		}
	}
}

func TestLimitsOfStacks(t *testing.T) {
	if impl.MaxCountMoves != 25 || impl.MaxDesk != 20 {
		t.Errorf("MaxCountMoves = %d, MaxDesk = %d", impl.MaxCountMoves, impl.MaxDesk)
	}
	for n := range 2 * impl.MaxDesk {
		lines := slices.Repeat([]string{"sort 2,1"}, n)
		want := strings.Repeat("1,2\n", n)
		if n > impl.MaxDesk {
			want = ""
		}
		if got := impl.RunDesk(lines); got != want {
			t.Errorf("RunDesk of %d lines = %q", n, got)
		}
	}
	for _, lines := range [][]string{nil, {}, make([]string, impl.MaxDesk+1), make([]string, 1000)} {
		if got := impl.RunDesk(lines); got != "" {
			t.Errorf("RunDesk of %d lines = %q", len(lines), got)
		}
	}
}

func TestStacksOfInvalidKeys(t *testing.T) {
	for _, keys := range badKeys() {
		holds(t, len(impl.StackPass(keys)) == 0 && len(impl.PopPass(keys)) == 0, keys, "none go through a stack")
		holds(t, !impl.IsStackable(keys) && !impl.HasThree(keys), keys, "a stack does not sort them, and there are no three")
		holds(t, impl.StackPasses(keys) == -1 && impl.PopPasses(keys) == -1, keys, "no number of times is enough")
		holds(t, impl.KeysText(keys) == "", keys, "there is no text of them")
	}
	for _, keys := range [][]int{{2, 3, 1, impl.MaxKey + 1}, {2, 3, -impl.MaxKey - 1}, {2, 3, 1, 0, 0, 0, 0, 0, 0}} {
		holds(t, !impl.HasThree(keys), keys, "no three of invalid ones")
	}
}

func TestInvalidMoves(t *testing.T) {
	for _, moves := range badMoves() {
		if impl.ValidMoves(moves) || len(impl.OrderOfMoves(moves)) != 0 {
			t.Errorf("%q: %v, %v", moves, impl.ValidMoves(moves), impl.OrderOfMoves(moves))
		}
	}
	for _, numbers := range badNumbers() {
		s, ok := impl.MovesOfOrder(numbers)
		holds(t, s == "" && !ok, numbers, "there are no moves of them")
	}
}

// allStacks calls each function of chapter 6 that takes or returns numbers and returns all of the results.
func allStacks(keys []int) [][]int {
	text := impl.KeysText(keys)
	read, ok := impl.ParseKeys(text)
	moves, okMoves := impl.MovesOfOrder(keys)
	counts := []int{flag(impl.IsStackable(keys)), impl.StackPasses(keys), flag(impl.HasThree(keys)), impl.PopPasses(keys), len(text), flag(ok), len(moves), flag(okMoves)}
	again, _ := impl.ParseKeys(text)
	return [][]int{impl.StackPass(keys), impl.PopPass(keys), read, again, impl.OrderOfMoves(moves), impl.OrderOfMoves("iioioo"), counts}
}

// stackedLists are keys that go through stacks.
var stackedLists = [][]int{
	{}, {0}, {7}, {1, 2, 0}, {2, 0, 1}, {2, 2, 1}, {3, 1, 4, 2}, {4, 3, 2, 1},
	{0, 1, 2, 3, 4, 5, 6, 7}, {7, 6, 5, 4, 3, 2, 1, 0}, {2, 3, 4, 5, 6, 7, 8, 1}, {100}, {100, 0},
}

func TestMemoryOfStacksIsOwn(t *testing.T) {
	for _, keys := range stackedLists {
		checkOwnMemory(t, keys, allStacks)
	}
}

func TestStacksKeepNoState(t *testing.T) {
	checkNoState(t, stackedLists, allStacks)
	lines := someLines()[:impl.MaxDesk]
	first := impl.RunDesk(lines)
	impl.RunDesk([]string{"sort 3,2,1", "runs x"})
	if again := impl.RunDesk(lines); again != first {
		t.Errorf("RunDesk = %q, and then %q", first, again)
	}
}

func TestLinesAreNotChanged(t *testing.T) {
	lines := []string{"sort 2,1", "runs x", "", "help", "behind"}
	room := slices.Clone(lines)
	impl.RunDesk(room[:4])
	if !slices.Equal(room, lines) {
		t.Errorf("the lines %q were changed: %q", lines, room)
	}
}
