package tests

import (
	"runtime"
	"slices"
	"testing"
	"time"

	"loop.example/measuredsorts/impl"
)

// workedStepsFrom are steps worked out by hand.
var workedStepsFrom = []struct {
	name string
	p    []int
	want [][]int
}{
	{"adjacent", nil, nil}, {"exchange", nil, nil}, {"turn", nil, nil}, {"flip", nil, nil}, {"put", nil, nil},
	{"adjacent", []int{0}, nil}, {"exchange", []int{0}, nil}, {"turn", []int{0}, nil}, {"flip", []int{0}, nil}, {"put", []int{0}, nil},
	{"adjacent", []int{0, 1}, [][]int{{1, 0}}}, {"exchange", []int{1, 0}, [][]int{{0, 1}}}, {"turn", []int{0, 1}, [][]int{{1, 0}}},
	{"flip", []int{1, 0}, [][]int{{0, 1}}}, {"put", []int{0, 1}, [][]int{{1, 0}}},
	{"adjacent", []int{2, 0, 1}, [][]int{{0, 2, 1}, {2, 1, 0}}},
	{"exchange", []int{2, 0, 1}, [][]int{{0, 2, 1}, {1, 0, 2}, {2, 1, 0}}},
	{"turn", []int{2, 0, 1}, [][]int{{0, 2, 1}, {1, 0, 2}, {2, 1, 0}}},
	{"flip", []int{2, 0, 1}, [][]int{{0, 2, 1}, {1, 0, 2}}},
	{"put", []int{2, 0, 1}, [][]int{{0, 1, 2}, {0, 2, 1}, {1, 2, 0}, {2, 1, 0}}},
	{"adjacent", []int{0, 1, 2, 3}, [][]int{{0, 1, 3, 2}, {0, 2, 1, 3}, {1, 0, 2, 3}}},
	{"exchange", []int{0, 1, 2, 3}, [][]int{{0, 1, 3, 2}, {0, 2, 1, 3}, {0, 3, 2, 1}, {1, 0, 2, 3}, {2, 1, 0, 3}, {3, 1, 2, 0}}},
	{"turn", []int{0, 1, 2, 3}, [][]int{{0, 1, 3, 2}, {0, 2, 1, 3}, {0, 3, 2, 1}, {1, 0, 2, 3}, {2, 1, 0, 3}, {3, 2, 1, 0}}},
	{"flip", []int{0, 1, 2, 3}, [][]int{{1, 0, 2, 3}, {2, 1, 0, 3}, {3, 2, 1, 0}}},
	{"put", []int{0, 1, 2, 3}, [][]int{
		{0, 1, 3, 2}, {0, 2, 1, 3}, {0, 2, 3, 1}, {0, 3, 1, 2}, {1, 0, 2, 3}, {1, 2, 0, 3}, {1, 2, 3, 0}, {2, 0, 1, 3}, {3, 0, 1, 2},
	}},
	{"flip", []int{3, 1, 4, 0, 2}, [][]int{{0, 4, 1, 3, 2}, {1, 3, 4, 0, 2}, {2, 0, 4, 1, 3}, {4, 1, 3, 0, 2}}},
	{"turn", []int{3, 1, 4, 0, 2}, [][]int{
		{0, 4, 1, 3, 2}, {1, 3, 4, 0, 2}, {2, 0, 4, 1, 3}, {3, 0, 4, 1, 2}, {3, 1, 0, 4, 2},
		{3, 1, 2, 0, 4}, {3, 1, 4, 2, 0}, {3, 2, 0, 4, 1}, {3, 4, 1, 0, 2}, {4, 1, 3, 0, 2},
	}},
}

func TestWorkedStepsFrom(t *testing.T) {
	for _, w := range workedStepsFrom {
		if got := impl.StepsFrom(w.name, w.p); !slices.EqualFunc(got, w.want, slices.Equal) {
			t.Errorf("StepsFrom(%q, %v) = %v, not %v", w.name, w.p, got, w.want)
		}
	}
}

// workedWays are ways worked out by hand.
var workedWays = []struct {
	name string
	way  [][]int // from the first one of it to the last one
}{
	{"adjacent", [][]int{{}}}, {"exchange", [][]int{{}}}, {"turn", [][]int{{}}}, {"flip", [][]int{{}}}, {"put", [][]int{{}}},
	{"adjacent", [][]int{{0}}}, {"turn", [][]int{{0}}}, {"put", [][]int{{0}}},
	{"adjacent", [][]int{{1, 0, 2}}}, {"exchange", [][]int{{4, 3, 2, 1, 0}}}, {"put", [][]int{{2, 0, 3, 1}}},
	{"adjacent", [][]int{{0, 1}, {1, 0}}}, {"flip", [][]int{{1, 0}, {0, 1}}},
	{"adjacent", [][]int{{2, 1, 0}, {1, 2, 0}, {1, 0, 2}, {0, 1, 2}}},
	{"exchange", [][]int{{2, 1, 0}, {0, 1, 2}}},
	{"exchange", [][]int{{1, 2, 0}, {0, 2, 1}, {0, 1, 2}}},
	{"exchange", [][]int{{1, 0, 3, 2}, {0, 1, 3, 2}, {0, 1, 2, 3}}},
	{"turn", [][]int{{1, 0, 3, 2}, {0, 1, 3, 2}, {0, 1, 2, 3}}},
	{"turn", [][]int{{0, 1, 2, 3, 4}, {4, 3, 2, 1, 0}}},
	{"flip", [][]int{{0, 2, 1}, {1, 2, 0}, {2, 1, 0}, {0, 1, 2}}},
	{"put", [][]int{{4, 0, 1, 2, 3}, {0, 1, 2, 3, 4}}},
	{"put", [][]int{{2, 1, 0}, {0, 2, 1}, {0, 1, 2}}},
	{"put", [][]int{{0, 1, 2}, {0, 2, 1}, {2, 1, 0}}},
}

func TestWorkedWays(t *testing.T) {
	for _, w := range workedWays {
		p, q := w.way[0], w.way[len(w.way)-1]
		if got := impl.WayBetween(w.name, p, q); !slices.EqualFunc(got, w.way, slices.Equal) {
			t.Errorf("WayBetween(%q, %v, %v) = %v, not %v", w.name, p, q, got, w.way)
		}
		if got := impl.StepsApart(w.name, p, q); got != len(w.way)-1 {
			t.Errorf("StepsApart(%q, %v, %v) = %d, not %d", w.name, p, q, got, len(w.way)-1)
		}
	}
}

func TestWorkedShells(t *testing.T) {
	for name, shells := range map[string][][]int{
		"adjacent": {{1}, {1}, {1, 1}, {1, 2, 2, 1}, {1, 3, 5, 6, 5, 3, 1}, {1, 4, 9, 15, 20, 22, 20, 15, 9, 4, 1}},
		"exchange": {{1}, {1}, {1, 1}, {1, 3, 2}, {1, 6, 11, 6}, {1, 10, 35, 50, 24}},
		"turn":     {{1}, {1}, {1, 1}, {1, 3, 2}, {1, 6, 15, 2}, {1, 10, 52, 55, 2}},
		"flip":     {{1}, {1}, {1, 1}, {1, 2, 2, 1}, {1, 3, 6, 11, 3}, {1, 4, 12, 35, 48, 20}},
		"put":      {{1}, {1}, {1, 1}, {1, 4, 1}, {1, 9, 13, 1}, {1, 16, 61, 41, 1}},
	} {
		for n, want := range shells {
			if got := impl.ShellsOf(name, n); !slices.Equal(got, want) {
				t.Errorf("ShellsOf(%q, %d) = %v, not %v", name, n, got, want)
			}
		}
		for _, n := range []int{-1, -2, impl.MaxOrder + 1, impl.MaxOrder + 2, 1000, 1<<63 - 1, -1 << 63} {
			if got := impl.ShellsOf(name, n); len(got) != 0 {
				t.Errorf("ShellsOf(%q, %d) = %v, not nil", name, n, got)
			}
		}
	}
}

func TestWorkedRelativeOrders(t *testing.T) {
	for _, w := range []struct{ p, q, want []int }{
		{nil, nil, nil}, {[]int{0}, []int{0}, []int{0}}, {[]int{0, 1}, []int{1, 0}, []int{1, 0}}, {[]int{1, 0}, []int{1, 0}, []int{0, 1}},
		{[]int{1, 2, 0}, []int{0, 1, 2}, []int{1, 2, 0}}, {[]int{0, 1, 2}, []int{1, 2, 0}, []int{2, 0, 1}}, {[]int{2, 0, 1}, []int{1, 2, 0}, []int{1, 2, 0}},
		{[]int{4, 3, 2, 1, 0}, []int{2, 4, 0, 3, 1}, []int{1, 3, 0, 4, 2}}, {[]int{3, 1, 0, 2}, []int{0, 2, 3, 1}, []int{2, 3, 0, 1}},
	} {
		if got, ok := impl.RelativeOf(w.p, w.q); !ok || !slices.Equal(got, w.want) {
			t.Errorf("RelativeOf(%v, %v) = %v, %v, not %v", w.p, w.q, got, ok, w.want)
		}
	}
}

func TestWorkedTurnBreaks(t *testing.T) {
	for _, w := range []struct {
		p    []int
		want int
	}{
		{nil, 0}, {[]int{0}, 0}, {[]int{0, 1}, 0}, {[]int{1, 0}, 2}, {[]int{2, 1, 0}, 2}, {[]int{0, 2, 1}, 2}, {[]int{1, 0, 2}, 2}, {[]int{1, 2, 0}, 3},
		{[]int{2, 0, 1}, 3}, {[]int{1, 3, 0, 2}, 5}, {[]int{3, 2, 0, 1}, 3}, {[]int{0, 3, 2, 1, 4}, 2}, {[]int{0, 1, 2, 4, 3}, 2}, {[]int{4, 3, 2, 1, 0}, 2},
		{[]int{2, 4, 1, 3, 0}, 6}, {[]int{2, 4, 0, 3, 1}, 6}, {[]int{0, 1, 2, 3, 4}, 0}, {[]int{1, 2, 3, 4, 0}, 3},
	} {
		if got := impl.TurnBreaks(w.p); got != w.want {
			t.Errorf("TurnBreaks(%v) = %d, not %d", w.p, got, w.want)
		}
	}
}

func TestStepsAreAllSteps(t *testing.T) {
	for _, name := range stepNames {
		for _, p := range someOrders() {
			if got, want := impl.StepsFrom(name, p), stepsModelFrom(name, p); !slices.EqualFunc(got, want, slices.Equal) {
				t.Errorf("StepsFrom(%q, %v) = %v, not %v", name, p, got, want)
			}
		}
	}
}

func TestWaysFollowTheirRule(t *testing.T) {
	for _, name := range stepNames {
		for n := range impl.MaxOrder + 1 {
			apart, all := apartModel(name, n), sortedOrders[n]
			for _, pair := range somePairs(n) {
				p, q := all[pair[0]], all[pair[1]]
				if got := impl.StepsApart(name, p, q); got != apart[pair[0]][pair[1]] {
					t.Errorf("StepsApart(%q, %v, %v) = %d, not %d", name, p, q, got, apart[pair[0]][pair[1]])
				}
				if got, want := impl.WayBetween(name, p, q), wayModel(name, apart, pair[0], pair[1], all); !slices.EqualFunc(got, want, slices.Equal) {
					t.Errorf("WayBetween(%q, %v, %v) = %v, not %v", name, p, q, got, want)
				}
			}
		}
	}
}

func TestLimitsOfOrders(t *testing.T) {
	if impl.MaxOrder != 5 {
		t.Errorf("MaxOrder = %d", impl.MaxOrder)
	}
	for _, p := range someOrders() {
		holds(t, impl.ValidOrder(p), p, "an order")
	}
	for _, p := range badOrders() {
		holds(t, !impl.ValidOrder(p), p, "no order")
	}
	for _, p := range orders(impl.MaxOrder + 1) {
		holds(t, !impl.ValidOrder(p), p, "one number too many")
	}
}

func TestInvalidOrders(t *testing.T) {
	good := []int{1, 0, 2}
	for _, bad := range badOrders() {
		for _, name := range append(slices.Clone(stepNames), noSteps...) {
			holds(t, len(impl.StepsFrom(name, bad)) == 0, bad, "no steps from it")
			for _, two := range [][2][]int{{bad, good}, {good, bad}, {bad, bad}, {bad, nil}, {nil, bad}, {bad, sortedOrders[min(len(bad), impl.MaxOrder)][0]}} {
				holds(t, impl.StepsApart(name, two[0], two[1]) == -1, bad, "no number of steps")
				holds(t, len(impl.WayBetween(name, two[0], two[1])) == 0, bad, "no way, not even one of no steps")
				places, ok := impl.RelativeOf(two[0], two[1])
				holds(t, !ok && len(places) == 0, bad, "no relative order")
			}
		}
		holds(t, impl.TurnBreaks(bad) == -1, bad, "no number of breaks")
	}
}

func TestOrdersOfTwoLengths(t *testing.T) {
	for n := range impl.MaxOrder + 1 {
		for k := range impl.MaxOrder + 1 {
			p, q := sortedOrders[n][0], sortedOrders[k][len(sortedOrders[k])-1]
			for _, name := range stepNames {
				holds(t, (impl.StepsApart(name, p, q) == -1) == (n != k), p, "steps lead only to orders of its length")
				holds(t, (len(impl.WayBetween(name, p, q)) == 0) == (n != k), p, "ways lead only to orders of its length")
			}
			places, ok := impl.RelativeOf(p, q)
			holds(t, ok == (n == k) && (ok || len(places) == 0), p, "relative orders are of one length")
		}
	}
}

func TestNamesOfNoStep(t *testing.T) {
	for _, name := range noSteps {
		for _, p := range [][]int{nil, {0}, {0, 1}, {2, 0, 1}, {4, 3, 2, 1, 0}} {
			holds(t, len(impl.StepsFrom(name, p)) == 0, p, "no steps of no name")
			holds(t, impl.StepsApart(name, p, p) == -1, p, "not even no steps lead to itself")
			holds(t, len(impl.WayBetween(name, p, p)) == 0, p, "no way to itself")
		}
		for n := -1; n <= impl.MaxOrder+1; n++ {
			holds(t, len(impl.ShellsOf(name, n)) == 0, []int{n}, "no shells of no name")
		}
	}
}

// allWays calls each function of chapter 4 and returns all of the results.
func allWays(p, q []int) [][]int {
	var lists [][]int
	var counts []int
	for _, name := range append(slices.Clone(stepNames), "roll") {
		lists = slices.Concat(lists, impl.StepsFrom(name, p), impl.WayBetween(name, p, q))
		lists = append(lists, impl.ShellsOf(name, len(p)))
		counts = append(counts, impl.StepsApart(name, p, q))
	}
	places, _ := impl.RelativeOf(p, q)
	return append(lists, places, append(counts, impl.TurnBreaks(p)))
}

// waysOfOrders are orders of which all ways are gone.
var waysOfOrders = [][]int{{}, {0}, {1, 0}, {2, 0, 1}, {0, 1, 2, 3}, {3, 1, 4, 0, 2}, {4, 3, 2, 1, 0}, {1, 1}, {0, 1, 2, 3, 4, 5}}

func TestMemoryOfWaysIsOwn(t *testing.T) {
	for _, p := range waysOfOrders {
		checkOwnMemory(t, p, func(p []int) [][]int { return allWays(p, p) })
		for _, q := range waysOfOrders {
			checkOwnMemory(t, p, func(p []int) [][]int { return allWays(p, q) })
			checkOwnMemory(t, q, func(q []int) [][]int { return allWays(p, q) })
		}
	}
}

func TestListsOfWaysHaveNoRoomInCommon(t *testing.T) {
	for _, name := range stepNames {
		p, q := []int{3, 1, 4, 0, 2}, []int{0, 1, 2, 3, 4}
		for _, lists := range [][][]int{impl.StepsFrom(name, p), impl.WayBetween(name, p, q)} {
			for _, list := range lists[len(lists):cap(lists)] {
				holds(t, len(list) == 0, p, "behind the orders there is nothing of them")
			}
		}
	}
}

func TestWaysKeepNoState(t *testing.T) {
	checkNoState(t, waysOfOrders, func(p []int) [][]int { return allWays(p, []int{1, 2, 0}) })
	checkNoState(t, waysOfOrders, func(p []int) [][]int { return allWays([]int{1, 2, 0}, p) })
	checkNoState(t, waysOfOrders, func(p []int) [][]int { return allWays(p, p) })
}

func TestNothingGoesOnBehindWays(t *testing.T) {
	before := runtime.NumGoroutine()
	for _, p := range waysOfOrders {
		for range 5 {
			allWays(p, []int{0, 1, 2, 3, 4})
		}
	}
	// A goroutine that has sent its last order may take a moment to end.
	for range 1000 {
		if runtime.NumGoroutine() <= before {
			return
		}
		time.Sleep(time.Millisecond)
	}
	t.Errorf("%d goroutines, and then %d", before, runtime.NumGoroutine())
}
