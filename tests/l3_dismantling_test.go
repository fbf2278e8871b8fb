package tests

import (
	"math"
	"reflect"
	"slices"
	"testing"

	"loop.example/g01109/impl"
)

// checkTold compares what a function reports, beside a bool, with what it should report.
func checkTold(t *testing.T, name string, got bool, ok bool, want bool) {
	t.Helper()
	if !ok || got != want {
		t.Errorf("%s: got %v, %v, want %v", name, got, ok, want)
	}
}

// checkNumber compares a result of a number and a bool with the wanted number.
func checkNumber(t *testing.T, name string, got int, ok bool, want int) {
	t.Helper()
	if !ok || got != want {
		t.Errorf("%s: got %v, %v, want %v", name, got, ok, want)
	}
}

// checkPairs compares a result of a list of pairs and a bool with the wanted list.
func checkPairs(t *testing.T, name string, got [][2]int, ok bool, want [][2]int) {
	t.Helper()
	if !ok || !slices.Equal(got, want) {
		t.Errorf("%s: got %v, %v, want %v", name, got, ok, want)
	}
}

// closedTable tells for two nodes whether they are the same or neighbors.
type closedTable [8][8]bool

func closedIn(g impl.Graph) closedTable {
	var closed closedTable
	for x := range g.Size {
		closed[x][x] = true
	}
	for _, e := range g.Edges {
		closed[e[0]][e[1]], closed[e[1]][e[0]] = true, true
	}
	return closed
}

// nodesOf returns the set of the first nodes.
func nodesOf(size int) []int {
	set := []int{}
	for x := range size {
		set = append(set, x)
	}
	return set
}

// without returns a list without an element.
func without(list []int, x int) []int {
	return slices.DeleteFunc(slices.Clone(list), func(y int) bool { return y == x })
}

// coversBy returns the covers of a node of a set by the description.
func coversBy(closed closedTable, set []int, x int) []int {
	var covers []int
	for _, y := range set {
		covered := y != x
		for _, z := range set {
			if closed[x][z] && !closed[y][z] {
				covered = false
			}
		}
		if covered {
			covers = append(covers, y)
		}
	}
	return covers
}

// cornersBy returns the corners of a set by the description.
func cornersBy(closed closedTable, set []int) []int {
	var corners []int
	for _, x := range set {
		if len(coversBy(closed, set, x)) > 0 {
			corners = append(corners, x)
		}
	}
	return corners
}

// strippingBy returns the steps of the stripping and the core by the description.
func strippingBy(closed closedTable, set []int) ([][2]int, []int) {
	corners := cornersBy(closed, set)
	if len(corners) == 0 {
		return nil, set
	}
	x := corners[0]
	steps, core := strippingBy(closed, without(set, x))
	return append([][2]int{{x, coversBy(closed, set, x)[0]}}, steps...), core
}

// isDismantlingBy tells by the description whether a list of each node once is a dismantling.
func isDismantlingBy(closed closedTable, order []int) bool {
	for i := range len(order) - 1 {
		if len(coversBy(closed, order[i:], order[i])) == 0 {
			return false
		}
	}
	return true
}

// dismantlings are the number of the dismantlings of a set, and the first one.
type dismantlings struct {
	count int
	first []int
}

// dismantlingsBy tries all corners of a set of nodes as the first one.
func dismantlingsBy(closed closedTable, set []int, known map[int]dismantlings) dismantlings {
	if len(set) == 1 {
		return dismantlings{1, set}
	}
	key := 0
	for _, x := range set {
		key |= 1 << x
	}
	if all, there := known[key]; there {
		return all
	}
	var all dismantlings
	for _, x := range cornersBy(closed, set) {
		rest := dismantlingsBy(closed, without(set, x), known)
		if rest.count > 0 && all.count == 0 {
			all.first = append([]int{x}, rest.first...)
		}
		all.count += rest.count
	}
	known[key] = all
	return all
}

// catching tells for each number of moves, node of the cop and node of the robber, with the cop
// to move, whether the cop can catch the robber in at most that number of moves.
func catching(g impl.Graph) [][8][8]bool {
	closed, size := closedIn(g), g.Size
	can := make([][8][8]bool, size*size+2)
	for moves := range can {
		for cop := range size {
			for robber := range size {
				can[moves][cop][robber] = cop == robber
				for to := range size {
					if moves > 0 && closed[cop][to] && catchesBehind(closed, size, can[moves-1], to, robber) {
						can[moves][cop][robber] = true
					}
				}
			}
		}
	}
	return can
}

// catchesBehind tells whether the robber is caught, with the cop having moved, at once or as
// the table says behind each move.
func catchesBehind(closed closedTable, size int, can [8][8]bool, cop int, robber int) bool {
	if cop == robber {
		return true
	}
	for to := range size {
		if closed[robber][to] && !can[cop][to] {
			return false
		}
	}
	return true
}

// timesBy returns the times by the description.
func timesBy(g impl.Graph) [][]int {
	can := catching(g)
	times := [][]int{}
	for cop := range g.Size {
		times = append(times, []int{})
		for robber := range g.Size {
			least := slices.IndexFunc(can, func(table [8][8]bool) bool { return table[cop][robber] })
			times[cop] = append(times[cop], least)
		}
	}
	return times
}

// robberBy returns the move of the robber by the description.
func robberBy(closed closedTable, times [][]int, cop int, robber int) int {
	longest := 0
	for to, time := range times[cop] {
		if closed[robber][to] && time < 0 {
			return to
		}
		if closed[robber][to] {
			longest = max(longest, time)
		}
	}
	for to, time := range times[cop] {
		if closed[robber][to] && time == longest {
			return to
		}
	}
	return -1
}

// named is a Graph with all that the functions of one Graph tell of it.
type named struct {
	name       string
	g          impl.Graph
	steps      [][2]int
	core       []int
	to         []int
	first      []int
	count      int
	cop, moves int
}

// namedGraphs are Graphs whose results were found by hand; the first dismantling is nil, and
// the time of the cop -1, where one cop does not win.
func namedGraphs() []named {
	all := nodesOf(8)
	path := graph(8, 0, 1, 1, 2, 2, 3, 3, 4, 4, 5, 5, 6, 6, 7)
	leaves := graph(8, 0, 1, 0, 2, 0, 3, 0, 4, 0, 5, 0, 6, 0, 7)
	hub := graph(5, 0, 4, 1, 4, 2, 4, 3, 4)
	wheel := graph(6, 0, 1, 0, 4, 0, 5, 1, 2, 1, 5, 2, 3, 2, 5, 3, 4, 3, 5, 4, 5)
	return []named{
		{"one node", graph(1), nil, []int{0}, []int{0}, []int{0}, 1, 0, 0},
		{"two nodes apart", graph(2), nil, []int{0, 1}, []int{0, 1}, nil, 0, 0, -1},
		{"two neighbors", graph(2, 0, 1), [][2]int{{0, 1}}, []int{1}, []int{1, 1}, []int{0, 1}, 2, 0, 1},
		{"an edge and a node", graph(3, 0, 1), [][2]int{{0, 1}}, []int{1, 2}, []int{1, 1, 2}, nil, 0, 0, -1},
		{"a node and an edge", graph(3, 1, 2), [][2]int{{1, 2}}, []int{0, 2}, []int{0, 2, 2}, nil, 0, 0, -1},
		{"three nodes in a row", graph(3, 0, 1, 1, 2), [][2]int{{0, 1}, {1, 2}}, []int{2}, []int{2, 2, 2}, []int{0, 1, 2}, 4, 1, 1},
		{"a cycle of three", graph(3, 0, 1, 0, 2, 1, 2), [][2]int{{0, 1}, {1, 2}}, []int{2}, []int{2, 2, 2}, []int{0, 1, 2}, 6, 0, 1},
		{"a cycle of four", graph(4, 0, 1, 0, 3, 1, 2, 2, 3), nil, nodesOf(4), nodesOf(4), nil, 0, 0, -1},
		{"a cycle of five", graph(5, 0, 1, 0, 4, 1, 2, 2, 3, 3, 4), nil, nodesOf(5), nodesOf(5), nil, 0, 0, -1},
		{"a cycle of four and a leaf", graph(5, 0, 1, 1, 2, 1, 4, 2, 3, 3, 4), [][2]int{{0, 1}}, []int{1, 2, 3, 4}, []int{1, 1, 2, 3, 4}, nil, 0, 0, -1},
		{"a cycle of four and its diagonal", graph(4, 0, 1, 0, 2, 0, 3, 1, 2, 2, 3), [][2]int{{0, 2}, {1, 2}, {2, 3}}, []int{3}, []int{3, 3, 3, 3}, []int{0, 1, 2, 3}, 20, 0, 1},
		{"four leaves of the last node", hub, [][2]int{{0, 4}, {1, 4}, {2, 4}, {3, 4}}, []int{4}, []int{4, 4, 4, 4, 4}, []int{0, 1, 2, 3, 4}, 48, 4, 1},
		{"a wheel of five", wheel, [][2]int{{0, 5}, {1, 2}, {2, 3}, {3, 4}, {4, 5}}, []int{5}, []int{5, 5, 5, 5, 5, 5}, []int{0, 1, 2, 3, 4, 5}, 340, 5, 1},
		{"eight nodes in a row", path, [][2]int{{0, 1}, {1, 2}, {2, 3}, {3, 4}, {4, 5}, {5, 6}, {6, 7}}, []int{7}, []int{7, 7, 7, 7, 7, 7, 7, 7}, all, 128, 3, 4},
		{"seven leaves of the first node", leaves, [][2]int{{1, 0}, {2, 0}, {3, 0}, {4, 0}, {5, 0}, {6, 0}, {0, 7}}, []int{7}, []int{7, 7, 7, 7, 7, 7, 7, 7}, []int{1, 2, 3, 4, 5, 6, 0, 7}, 10080, 0, 1},
		{"all edges", graphOfBits(8, 1<<28-1), [][2]int{{0, 1}, {1, 2}, {2, 3}, {3, 4}, {4, 5}, {5, 6}, {6, 7}}, []int{7}, []int{7, 7, 7, 7, 7, 7, 7, 7}, all, 40320, 0, 1},
		{"no edges", graph(8), nil, all, all, nil, 0, 0, -1},
		{"a cube", cube(), nil, all, all, nil, 0, 0, -1},
		{"a ladder", ladder(), nil, all, all, nil, 0, 0, -1},
		{"two sides", graph(8, 0, 4, 0, 5, 0, 6, 0, 7, 1, 4, 1, 5, 1, 6, 1, 7, 2, 4, 2, 5, 2, 6, 2, 7, 3, 4, 3, 5, 3, 6, 3, 7), nil, all, all, nil, 0, 0, -1},
		{"two cycles of four", graph(8, 0, 1, 0, 3, 1, 2, 2, 3, 4, 5, 4, 7, 5, 6, 6, 7), nil, all, all, nil, 0, 0, -1},
	}
}

func TestNamedGraphsAreDismantled(t *testing.T) {
	for _, c := range namedGraphs() {
		steps, ok := impl.StrippingOf(c.g)
		checkPairs(t, "stripping of "+c.name, steps, ok, c.steps)
		core, ok := impl.CoreOf(c.g)
		checkList(t, "core of "+c.name, core, ok, c.core)
		to, ok := impl.RetractionOf(c.g)
		checkList(t, "retraction of "+c.name, to, ok, c.to)
		count, ok := impl.CountDismantlings(c.g)
		checkNumber(t, "dismantlings of "+c.name, count, ok, c.count)
		wins, ok := impl.OneCopWins(c.g)
		checkTold(t, "one cop on "+c.name, wins, ok, c.moves >= 0)
		if c.first == nil {
			checkFails(t, "DismantlingOf "+c.name, impl.DismantlingOf, c.g)
			checkFails(t, "CaptureTime of "+c.name, impl.CaptureTime, c.g)
			continue
		}
		first, ok := impl.DismantlingOf(c.g)
		checkList(t, "dismantling of "+c.name, first, ok, c.first)
		if cop, moves, ok := impl.CaptureTime(c.g); !ok || cop != c.cop || moves != c.moves {
			t.Error("capture on", c.name, cop, moves, ok)
		}
	}
}

func TestCornersAndCoversByHand(t *testing.T) {
	diamond := graph(4, 0, 1, 0, 2, 0, 3, 1, 2, 2, 3)
	ring := graph(4, 0, 1, 0, 3, 1, 2, 2, 3)
	for _, c := range []struct {
		name    string
		g       impl.Graph
		set     []int
		corners []int
	}{
		{"no nodes", graph(0), nil, nil},
		{"one node", graph(1), []int{0}, nil},
		{"nothing of a cube", cube(), []int{}, nil},
		{"one node of a cube", cube(), []int{5}, nil},
		{"two neighbors of a cube", cube(), []int{5, 7}, []int{5, 7}},
		{"two other nodes of a cube", cube(), []int{4, 7}, nil},
		{"two nodes apart", graph(2), []int{0, 1}, nil},
		{"a node without neighbors", graph(3, 0, 2), []int{0, 1, 2}, []int{0, 2}},
		{"neighbors that are not in the set", graph(3, 0, 1, 0, 2), []int{1, 2}, nil},
		{"same neighbors, not adjacent", ring, []int{0, 1, 2, 3}, nil},
		{"same neighbors, adjacent or not", diamond, []int{0, 1, 2, 3}, []int{0, 1, 2, 3}},
		{"three of them", diamond, []int{0, 1, 3}, []int{1, 3}},
		{"two of them", diamond, []int{1, 3}, nil},
		{"three of a ring", ring, []int{0, 1, 2}, []int{0, 2}},
		{"a corner of nodes that are none in all", graph(5, 0, 1, 0, 4, 1, 2, 2, 3, 3, 4), []int{0, 1, 2, 3}, []int{0, 3}},
	} {
		got, ok := impl.CornersOf(c.g, c.set)
		checkList(t, c.name, got, ok, c.corners)
	}
	for x, want := range [][]int{{2}, {0, 2}, {0}, {0, 2}} {
		got, ok := impl.CoversOf(diamond, x)
		checkList(t, "covers in a diamond", got, ok, want)
		got, ok = impl.CoversOf(ring, x)
		checkList(t, "covers in a ring", got, ok, nil)
	}
	got, ok := impl.CoversOf(graph(3, 0, 1), 2)
	checkList(t, "covers of a node without neighbors", got, ok, nil)
	got, ok = impl.CoversOf(graphOfBits(8, 1<<28-1), 3)
	checkList(t, "covers in a complete Graph", got, ok, []int{0, 1, 2, 4, 5, 6, 7})
}

func TestCornersOfAllSets(t *testing.T) {
	for _, g := range append(smallGraphs(4), greatGraphs()[:25]...) {
		closed := closedIn(g)
		for _, set := range subsetsOf(g.Size) {
			want := cornersBy(closed, set)
			got, ok := impl.CornersOf(g, set)
			checkList(t, "corners in "+textOf(g), got, ok, want)
			for x := range g.Size {
				if !slices.Contains(set, x) {
					checkFails(t, "IsCorner outside", impl.IsCorner, g, set, x)
					continue
				}
				is, ok := impl.IsCorner(g, set, x)
				checkTold(t, "corner in "+textOf(g), is, ok, slices.Contains(want, x))
			}
		}
	}
}

func TestCoversOfAllNodes(t *testing.T) {
	for _, g := range sampleGraphs() {
		for x := range g.Size {
			got, ok := impl.CoversOf(g, x)
			checkList(t, "covers in "+textOf(g), got, ok, coversBy(closedIn(g), nodesOf(g.Size), x))
		}
	}
}

// followed returns the node that stands for a node when it follows the covers.
func followed(steps [][2]int, x int) int {
	for _, step := range steps {
		if step[0] == x {
			return followed(steps, step[1])
		}
	}
	return x
}

func TestStrippingByItsDescription(t *testing.T) {
	for _, g := range sampleGraphs()[1:] {
		steps, core := strippingBy(closedIn(g), nodesOf(g.Size))
		gotSteps, ok := impl.StrippingOf(g)
		checkPairs(t, "stripping of "+textOf(g), gotSteps, ok, steps)
		gotCore, ok := impl.CoreOf(g)
		checkList(t, "core of "+textOf(g), gotCore, ok, core)
		var to []int
		for x := range g.Size {
			to = append(to, followed(steps, x))
			shadows := []int{x}
			for _, step := range steps {
				at := shadows[len(shadows)-1]
				if at == step[0] {
					at = step[1]
				}
				shadows = append(shadows, at)
			}
			gotShadows, ok := impl.ShadowsOf(g, x)
			checkList(t, "shadows in "+textOf(g), gotShadows, ok, shadows)
			if shadows[len(shadows)-1] != to[x] {
				t.Error("last shadow", g, x, shadows)
			}
		}
		gotTo, ok := impl.RetractionOf(g)
		checkList(t, "retraction of "+textOf(g), gotTo, ok, to)
	}
}

func TestShadowsByHand(t *testing.T) {
	leaf := graph(5, 0, 1, 1, 2, 1, 4, 2, 3, 3, 4)
	hub := graph(4, 0, 1, 0, 2, 0, 3)
	for _, c := range []struct {
		g    impl.Graph
		x    int
		want []int
	}{
		{graph(1), 0, []int{0}}, {graph(2), 1, []int{1}}, {cube(), 6, []int{6}},
		{leaf, 0, []int{0, 1}}, {leaf, 1, []int{1, 1}}, {leaf, 3, []int{3, 3}},
		{hub, 1, []int{1, 0, 0, 3}}, {hub, 2, []int{2, 2, 0, 3}}, {hub, 0, []int{0, 0, 0, 3}}, {hub, 3, []int{3, 3, 3, 3}},
	} {
		got, ok := impl.ShadowsOf(c.g, c.x)
		checkList(t, "shadows in "+textOf(c.g), got, ok, c.want)
	}
}

func TestDismantlingsOfAllOrders(t *testing.T) {
	for _, g := range smallGraphs(5)[1:] {
		var first []int
		count := 0
		for _, order := range ordersOf(g.Size) {
			want := isDismantlingBy(closedIn(g), order)
			got, ok := impl.IsDismantling(g, order)
			checkTold(t, "order of "+textOf(g), got, ok, want)
			if want && count == 0 {
				first = order
			}
			if want {
				count++
			}
		}
		checkDismantlings(t, g, dismantlings{count, first})
	}
}

// checkDismantlings compares the number of the dismantlings, and the first one.
func checkDismantlings(t *testing.T, g impl.Graph, want dismantlings) {
	t.Helper()
	count, ok := impl.CountDismantlings(g)
	checkNumber(t, "dismantlings of "+textOf(g), count, ok, want.count)
	if want.count == 0 {
		checkFails(t, "DismantlingOf "+textOf(g), impl.DismantlingOf, g)
		return
	}
	first, ok := impl.DismantlingOf(g)
	checkList(t, "dismantling of "+textOf(g), first, ok, want.first)
	is, ok := impl.IsDismantling(g, first)
	checkTold(t, "first dismantling of "+textOf(g), is, ok, true)
}

// treeGraphs returns Graphs of eight nodes that have dismantlings: each node behind the first has
// a cover among those before it when it comes.
func treeGraphs() []impl.Graph {
	var all []impl.Graph
	bits := 7
	for range 60 {
		closed := closedTable{{true}}
		for x := 1; x < 8; x++ {
			bits = bits * 48271 % 2147483647
			cover := bits % x
			for y := range x {
				joined := y == cover || closed[cover][y] && bits>>(3+y)&1 == 1
				closed[x][y], closed[y][x] = joined, joined
			}
			closed[x][x] = true
		}
		g := graphBy(8, func(x, y int) bool { return closed[x][y] })
		all = append(all, g, renamed(g, []int{3, 6, 0, 7, 5, 1, 4, 2}))
	}
	return all
}

func TestDismantlingsOfGreatGraphs(t *testing.T) {
	won := 0
	for _, g := range append(greatGraphs(), treeGraphs()...) {
		want := dismantlingsBy(closedIn(g), nodesOf(g.Size), map[int]dismantlings{})
		checkDismantlings(t, g, want)
		if want.count > 0 {
			won++
		}
	}
	if won < 120 {
		t.Error("few Graphs with dismantlings:", won)
	}
}

func TestListsThatAreNoDismantling(t *testing.T) {
	path, full := graph(3, 0, 1, 1, 2), graphOfBits(4, 63)
	for _, c := range []struct {
		name  string
		g     impl.Graph
		order []int
		want  bool
	}{
		{"a row", path, []int{0, 1, 2}, true},
		{"a row from the end", path, []int{2, 0, 1}, true},
		{"the middle first", path, []int{1, 0, 2}, false},
		{"nothing", path, nil, false},
		{"too short", path, []int{0, 1}, false},
		{"too long", path, []int{0, 1, 2, 0}, false},
		{"too long, with a further node", path, []int{0, 1, 2, 3}, false},
		{"a node twice", path, []int{0, 1, 1}, false},
		{"the first node twice", path, []int{0, 0, 1}, false},
		{"a node that is not there", path, []int{0, 1, 3}, false},
		{"a node that is not there first", path, []int{3, 0, 1}, false},
		{"a node less than 0", path, []int{-1, 0, 1}, false},
		{"a node far away", path, []int{0, 1, math.MaxInt}, false},
		{"a node far below", path, []int{math.MinInt, 1, 2}, false},
		{"all of a complete Graph", full, []int{3, 1, 2, 0}, true},
		{"three of four", full, []int{3, 1, 2}, false},
		{"one of four twice", full, []int{3, 1, 2, 3}, false},
		{"one node", graph(1), []int{0}, true},
		{"one node twice", graph(1), []int{0, 0}, false},
		{"none of one node", graph(1), []int{}, false},
		{"another node", graph(1), []int{1}, false},
		{"two nodes apart", graph(2), []int{0, 1}, false},
		{"a node without neighbors last", graph(3, 0, 1), []int{0, 1, 2}, false},
		{"a node without neighbors first", graph(3, 0, 1), []int{2, 0, 1}, false},
		{"no corner at its turn", graph(4, 0, 1, 1, 2, 2, 3), []int{0, 2, 1, 3}, false},
		{"the last but one is no corner", graph(4, 0, 1, 1, 2, 2, 3), []int{0, 3, 1, 2}, true},
		{"a corner at its turn alone", graph(4, 0, 1, 1, 2, 2, 3), []int{3, 2, 0, 1}, true},
		{"the middle of leaves too early", graph(4, 0, 1, 0, 2, 0, 3), []int{1, 0, 2, 3}, false},
		{"the middle of leaves in time", graph(4, 0, 1, 0, 2, 0, 3), []int{1, 2, 0, 3}, true},
		{"a long list", path, make([]int, 1<<20), false},
	} {
		got, ok := impl.IsDismantling(c.g, c.order)
		checkTold(t, c.name, got, ok, c.want)
	}
	for _, order := range [][]int{nil, {0}, {0, 1}} {
		checkFails(t, "no nodes", impl.IsDismantling, graph(0), order)
	}
}

// listsOver returns all lists of a length with elements of a range.
func listsOver(length int, from int, to int) [][]int {
	lists := [][]int{{}}
	for range length {
		var longer [][]int
		for _, list := range lists {
			for x := from; x <= to; x++ {
				longer = append(longer, append(slices.Clone(list), x))
			}
		}
		lists = longer
	}
	return lists
}

// isRetractionBy tells by the description whether a list is a retraction.
func isRetractionBy(g impl.Graph, to []int) bool {
	if len(to) != g.Size {
		return false
	}
	for _, y := range to {
		if y < 0 || y >= g.Size || to[y] != y {
			return false
		}
	}
	for x := range to {
		for y := range to {
			if nearIn(g, x, y) && to[x] != to[y] && !nearIn(g, to[x], to[y]) {
				return false
			}
		}
	}
	return true
}

func TestRetractionsOfAllLists(t *testing.T) {
	for _, g := range smallGraphs(3) {
		for length := range g.Size + 2 {
			for _, to := range listsOver(length, -1, g.Size) {
				got, ok := impl.IsRetraction(g, to)
				checkTold(t, "retraction of "+textOf(g), got, ok, isRetractionBy(g, to))
			}
		}
	}
	for _, g := range append(allGraphs(4), graph(5, 0, 1, 0, 4, 1, 2, 2, 3, 3, 4), graph(5, 0, 1, 0, 4, 1, 2, 1, 4, 2, 3, 3, 4)) {
		for _, to := range listsOver(g.Size, 0, g.Size-1) {
			got, ok := impl.IsRetraction(g, to)
			checkTold(t, "retraction of "+textOf(g), got, ok, isRetractionBy(g, to))
		}
	}
}

func TestRetractionsOfGreatGraphs(t *testing.T) {
	for _, g := range append(greatGraphs(), treeGraphs()...) {
		for x := range g.Size {
			for y := range g.Size {
				to := nodesOf(g.Size)
				to[x] = y
				got, ok := impl.IsRetraction(g, to)
				checkTold(t, "one node moved in "+textOf(g), got, ok, isRetractionBy(g, to))
				to[(x+3)%g.Size] = (y + 5) % g.Size
				got, ok = impl.IsRetraction(g, to)
				checkTold(t, "two nodes moved in "+textOf(g), got, ok, isRetractionBy(g, to))
			}
		}
	}
}

func TestListsThatAreNoRetraction(t *testing.T) {
	path, ring := graph(3, 0, 1, 1, 2), graph(4, 0, 1, 0, 3, 1, 2, 2, 3)
	for _, c := range []struct {
		name string
		g    impl.Graph
		to   []int
		want bool
	}{
		{"no nodes", graph(0), nil, true},
		{"one node too many", graph(0), []int{0}, false},
		{"each for itself", path, []int{0, 1, 2}, true},
		{"one for all", path, []int{2, 2, 2}, true},
		{"an end for the other", path, []int{0, 1, 0}, true},
		{"folded", ring, []int{0, 1, 0, 3}, true},
		{"folded twice", ring, []int{0, 1, 0, 1}, true},
		{"neighbors apart", ring, []int{0, 0, 2, 3}, false},
		{"a turn", ring, []int{1, 2, 3, 0}, false},
		{"a change of neighbors", path, []int{1, 0, 1}, false},
		{"a step", path, []int{1, 2, 2}, false},
		{"neighbors torn", path, []int{0, 0, 2}, false},
		{"nodes apart", graph(2), []int{1, 1}, true},
		{"nodes apart exchanged", graph(2), []int{1, 0}, false},
		{"too short", path, []int{0, 1}, false},
		{"nothing", path, []int{}, false},
		{"too long", path, []int{0, 1, 2, 0}, false},
		{"a node that is not there", path, []int{0, 1, 3}, false},
		{"a node less than 0", path, []int{-1, 1, 2}, false},
		{"a node far away", path, []int{0, math.MaxInt, 2}, false},
		{"a node far below", path, []int{0, 1, math.MinInt}, false},
		{"a long list", path, make([]int, 1<<20), false},
	} {
		got, ok := impl.IsRetraction(c.g, c.to)
		checkTold(t, c.name, got, ok, c.want)
	}
}

// isRoomBy tells by the description whether a list is a retraction to a room.
func isRoomBy(g impl.Graph, set []int, to []int) bool {
	if len(set) < 2 || !isRetractionBy(g, to) || len(cornersBy(closedIn(g), set)) > 0 {
		return false
	}
	for x := range g.Size {
		if slices.Contains(set, x) != slices.Contains(to, x) {
			return false
		}
	}
	return true
}

func TestRoomsOfAllSetsAndLists(t *testing.T) {
	rooms := 0
	for _, g := range append(smallGraphs(4), graph(5, 0, 1, 0, 4, 1, 2, 1, 4, 2, 3, 3, 4)) {
		lists := append(listsOver(g.Size, 0, g.Size-1), nodesOf(g.Size+1), make([]int, max(g.Size-1, 0)))
		for _, to := range lists {
			for _, set := range subsetsOf(g.Size) {
				want := isRoomBy(g, set, to)
				got, ok := impl.IsRoom(g, set, to)
				checkTold(t, "room of "+textOf(g), got, ok, want)
				if want {
					rooms++
				}
			}
		}
	}
	if rooms < 100 {
		t.Error("few rooms:", rooms)
	}
}

func TestRoomsByHand(t *testing.T) {
	ring := graph(4, 0, 1, 0, 3, 1, 2, 2, 3)
	leaf := graph(5, 0, 1, 1, 2, 1, 4, 2, 3, 3, 4)
	for _, c := range []struct {
		name string
		g    impl.Graph
		set  []int
		to   []int
		want bool
	}{
		{"no nodes", graph(0), nil, nil, false},
		{"one node", graph(1), []int{0}, []int{0}, false},
		{"one node of two apart", graph(2), []int{1}, []int{1, 1}, false},
		{"two nodes apart", graph(2), []int{0, 1}, []int{0, 1}, true},
		{"two neighbors", graph(2, 0, 1), []int{0, 1}, []int{0, 1}, false},
		{"nothing of a ring", ring, nil, nodesOf(4), false},
		{"a ring", ring, nodesOf(4), nodesOf(4), true},
		{"a ring and a leaf", leaf, []int{1, 2, 3, 4}, []int{1, 1, 2, 3, 4}, true},
		{"the leaf to a node that is not its cover", leaf, []int{1, 2, 3, 4}, []int{2, 1, 2, 3, 4}, true},
		{"the leaf to a node too far away", leaf, []int{1, 2, 3, 4}, []int{3, 1, 2, 3, 4}, false},
		{"a node more than the list has", leaf, nodesOf(5), []int{1, 1, 2, 3, 4}, false},
		{"a node less than the list has", leaf, []int{1, 2, 3}, []int{1, 1, 2, 3, 4}, false},
		{"another node than the list has", leaf, []int{0, 2, 3, 4}, []int{1, 1, 2, 3, 4}, false},
		{"the ring with its leaf", leaf, nodesOf(5), nodesOf(5), false},
		{"folded to a row", ring, []int{0, 1, 3}, []int{0, 1, 0, 3}, false},
		{"a list too short", ring, nodesOf(4), []int{0, 1, 2}, false},
		{"a list too long", ring, nodesOf(4), []int{0, 1, 2, 3, 0}, false},
		{"a list of nodes less than 0", ring, nodesOf(4), []int{-1, 1, 2, 3}, false},
		{"a list of nodes far away", ring, nodesOf(4), []int{0, 1, 2, 1 << 40}, false},
		{"a cube", cube(), nodesOf(8), nodesOf(8), true},
		{"a cube folded", cube(), nodesOf(4), []int{0, 1, 2, 3, 0, 1, 2, 3}, true},
		{"a cube turned", cube(), nodesOf(8), []int{4, 5, 6, 7, 0, 1, 2, 3}, false},
		{"a long list", ring, nodesOf(4), make([]int, 1<<20), false},
	} {
		got, ok := impl.IsRoom(c.g, c.set, c.to)
		checkTold(t, c.name, got, ok, c.want)
	}
}

// gameGraphs returns the Graphs on which the game of one cop is compared with a search.
func gameGraphs() []impl.Graph {
	all := append(sampleGraphs(), treeGraphs()...)
	for _, c := range namedGraphs() {
		all = append(all, c.g)
	}
	return all
}

func TestTimesByTheGame(t *testing.T) {
	for _, g := range gameGraphs() {
		times := timesBy(g)
		if got, ok := impl.CopTimes(g); !ok || !sameLists(got, times) {
			t.Error("times", g, got, ok, times)
		}
		cop, least := -1, math.MaxInt
		for x, row := range times {
			if !slices.Contains(row, -1) && slices.Max(row) < least {
				cop, least = x, slices.Max(row)
			}
		}
		if g.Size > 0 {
			wins, ok := impl.OneCopWins(g)
			checkTold(t, "one cop on "+textOf(g), wins, ok, cop >= 0)
		}
		if cop < 0 {
			checkFails(t, "CaptureTime of "+textOf(g), impl.CaptureTime, g)
		} else if x, time, ok := impl.CaptureTime(g); !ok || x != cop || time != least {
			t.Error("capture", g, x, time, ok, cop, least)
		}
	}
}

func TestTimesByHand(t *testing.T) {
	for _, c := range []struct {
		g    impl.Graph
		want [][]int
	}{
		{graph(0), nil},
		{graph(1), [][]int{{0}}},
		{graph(2), [][]int{{0, -1}, {-1, 0}}},
		{graph(2, 0, 1), [][]int{{0, 1}, {1, 0}}},
		{graph(3, 0, 1), [][]int{{0, 1, -1}, {1, 0, -1}, {-1, -1, 0}}},
		{graph(3, 0, 1, 1, 2), [][]int{{0, 1, 2}, {1, 0, 1}, {2, 1, 0}}},
		{graph(4, 0, 1, 1, 2, 2, 3), [][]int{{0, 1, 3, 3}, {1, 0, 1, 2}, {2, 1, 0, 1}, {3, 3, 1, 0}}},
		{graph(4, 0, 1, 0, 3, 1, 2, 2, 3), [][]int{{0, 1, -1, 1}, {1, 0, 1, -1}, {-1, 1, 0, 1}, {1, -1, 1, 0}}},
		{graph(4, 0, 1, 0, 2, 0, 3, 1, 2, 2, 3), [][]int{{0, 1, 1, 1}, {1, 0, 1, 2}, {1, 1, 0, 1}, {1, 2, 1, 0}}},
	} {
		if got, ok := impl.CopTimes(c.g); !ok || !sameLists(got, c.want) {
			t.Error(c.g, got, ok)
		}
	}
	path := graph(8, 0, 1, 1, 2, 2, 3, 3, 4, 4, 5, 5, 6, 6, 7)
	if got, ok := impl.CopTimes(path); !ok || !slices.Equal(got[0], []int{0, 1, 7, 7, 7, 7, 7, 7}) || !slices.Equal(got[4], []int{4, 4, 4, 1, 0, 1, 3, 3}) {
		t.Error(got, ok)
	}
}

// checkMoves compares the moves of both, and the play, from one place with those of a search.
func checkMoves(t *testing.T, g impl.Graph, times [][]int, cop int, robber int) {
	t.Helper()
	closed, moves := closedIn(g), times[cop][robber]
	if cop == robber {
		checkFails(t, "RobberMove", impl.RobberMove, g, cop, robber)
	} else {
		flee, ok := impl.RobberMove(g, cop, robber)
		checkNumber(t, "robber in "+textOf(g), flee, ok, robberBy(closed, times, cop, robber))
	}
	if moves < 1 {
		checkFails(t, "CopMove", impl.CopMove, g, cop, robber)
	} else {
		chase, ok := impl.CopMove(g, cop, robber)
		checkNumber(t, "cop in "+textOf(g), chase, ok, copBy(closed, times, cop, robber))
	}
	if moves < 0 {
		checkFails(t, "PlayOut", impl.PlayOut, g, cop, robber)
		return
	}
	want := [][2]int{{cop, robber}}
	for range moves {
		cop = copBy(closed, times, cop, robber)
		if cop != robber {
			robber = robberBy(closed, times, cop, robber)
		}
		want = append(want, [2]int{cop, robber})
	}
	if cop != robber {
		t.Error("not caught", g, want)
	}
	play, ok := impl.PlayOut(g, want[0][0], want[0][1])
	checkPairs(t, "play in "+textOf(g), play, ok, want)
}

// copBy returns the least move of the cop behind which the robber is caught in the time, one
// move of the cop less, whatever it does.
func copBy(closed closedTable, times [][]int, cop int, robber int) int {
	var can [8][8]bool
	for x, row := range times {
		for y, time := range row {
			can[x][y] = time >= 0 && time <= times[cop][robber]-1
		}
	}
	for to := range times {
		if closed[cop][to] && catchesBehind(closed, len(times), can, to, robber) {
			return to
		}
	}
	return -1
}

func TestMovesByTheGame(t *testing.T) {
	for _, g := range gameGraphs() {
		times := timesBy(g)
		for cop := range g.Size {
			for robber := range g.Size {
				checkMoves(t, g, times, cop, robber)
			}
		}
	}
}

func TestMovesByHand(t *testing.T) {
	path := graph(4, 0, 1, 1, 2, 2, 3)
	ring := graph(4, 0, 1, 0, 3, 1, 2, 2, 3)
	apart := graph(4, 0, 1, 2, 3)
	diamond := graph(4, 0, 1, 0, 2, 0, 3, 1, 2, 2, 3)
	for _, c := range []struct {
		name        string
		g           impl.Graph
		cop, robber int
		chase, flee int
	}{
		{"a neighbor", path, 1, 2, 2, 3},
		{"a robber at the end", path, 1, 3, 2, 3},
		{"a robber that had better go", path, 0, 2, 1, 2},
		{"the less of two ways", diamond, 1, 3, 0, 3},
		{"the robber comes nearer for a later end", path, 0, 3, 1, 2},
		{"the robber in a corner", graph(3, 0, 1, 1, 2), 0, 2, 1, 2},
		{"never caught", ring, 0, 2, -1, 2},
		{"caught if it stays", ring, 0, 1, 1, 2},
		{"in another part", apart, 0, 2, -1, 2},
		{"at the least node of another part", apart, 0, 3, -1, 2},
		{"a node without neighbors", graph(3, 0, 1), 0, 2, -1, 2},
		{"two neighbors", graph(2, 0, 1), 0, 1, 1, 1},
	} {
		flee, ok := impl.RobberMove(c.g, c.cop, c.robber)
		checkNumber(t, "robber: "+c.name, flee, ok, c.flee)
		if c.chase < 0 {
			checkFails(t, "cop: "+c.name, impl.CopMove, c.g, c.cop, c.robber)
			checkFails(t, "play: "+c.name, impl.PlayOut, c.g, c.cop, c.robber)
			continue
		}
		chase, ok := impl.CopMove(c.g, c.cop, c.robber)
		checkNumber(t, "cop: "+c.name, chase, ok, c.chase)
	}
	play, ok := impl.PlayOut(path, 0, 3)
	checkPairs(t, "along a row", play, ok, [][2]int{{0, 3}, {1, 3}, {2, 3}, {3, 3}})
	play, ok = impl.PlayOut(path, 0, 2)
	checkPairs(t, "away along a row", play, ok, [][2]int{{0, 2}, {1, 3}, {2, 3}, {3, 3}})
	play, ok = impl.PlayOut(ring, 2, 2)
	checkPairs(t, "caught at once", play, ok, [][2]int{{2, 2}})
	play, ok = impl.PlayOut(ring, 2, 1)
	checkPairs(t, "caught in one move", play, ok, [][2]int{{2, 1}, {1, 1}})
	play, ok = impl.PlayOut(graph(1), 0, 0)
	checkPairs(t, "one node", play, ok, [][2]int{{0, 0}})
}

// filledCalls are the functions of one Graph that fail if it has no nodes.
func filledCalls() map[string]any {
	return map[string]any{
		"StrippingOf": impl.StrippingOf, "CoreOf": impl.CoreOf, "DismantlingOf": impl.DismantlingOf,
		"CountDismantlings": impl.CountDismantlings, "RetractionOf": impl.RetractionOf,
		"OneCopWins": impl.OneCopWins, "CaptureTime": impl.CaptureTime,
	}
}

// nodeCalls are the functions of one Graph and one node.
func nodeCalls() map[string]any {
	return map[string]any{"CoversOf": impl.CoversOf, "ShadowsOf": impl.ShadowsOf}
}

// placeCalls are the functions of one Graph, the node of the cop and that of the robber.
func placeCalls() map[string]any {
	return map[string]any{"CopMove": impl.CopMove, "RobberMove": impl.RobberMove, "PlayOut": impl.PlayOut}
}

func TestOneCopWithoutNodes(t *testing.T) {
	for name, function := range filledCalls() {
		checkFails(t, name, function, graph(0))
	}
	for _, x := range []int{0, -1, 1} {
		for name, function := range nodeCalls() {
			checkFails(t, name, function, graph(0), x)
		}
		for name, function := range placeCalls() {
			checkFails(t, name, function, graph(0), x, x)
		}
		checkFails(t, "IsCorner", impl.IsCorner, graph(0), []int{}, x)
		checkFails(t, "IsCorner", impl.IsCorner, graph(0), []int{x}, x)
	}
	corners, ok := impl.CornersOf(graph(0), nil)
	checkList(t, "corners", corners, ok, nil)
}

func TestOneCopOnGraphsThatAreNotValid(t *testing.T) {
	for name, g := range brokenGraphs() {
		for call, function := range filledCalls() {
			checkFails(t, call+" of "+name, function, g)
		}
		checkFails(t, "CopTimes of "+name, impl.CopTimes, g)
		for _, x := range []int{-1, 0, 1, g.Size - 1, g.Size} {
			for call, function := range nodeCalls() {
				checkFails(t, call+" of "+name, function, g, x)
			}
			for call, function := range placeCalls() {
				checkFails(t, call+" of "+name, function, g, x, 0)
				checkFails(t, call+" of "+name, function, g, 1, x)
			}
			checkFails(t, "IsCorner of "+name, impl.IsCorner, g, []int{x}, x)
			checkFails(t, "CornersOf "+name, impl.CornersOf, g, []int{x})
		}
		for size := range 10 {
			all := nodesOf(size)
			checkFails(t, "CornersOf "+name, impl.CornersOf, g, all)
			checkFails(t, "IsCorner of "+name, impl.IsCorner, g, all, 0)
			checkFails(t, "IsDismantling of "+name, impl.IsDismantling, g, all)
			checkFails(t, "IsRetraction of "+name, impl.IsRetraction, g, all)
			checkFails(t, "IsRoom of "+name, impl.IsRoom, g, all, all)
		}
	}
}

func TestOneCopAtNodesThatAreNotThere(t *testing.T) {
	for _, g := range fewGraphs() {
		all := nodesOf(g.Size)
		for _, x := range farNumbers(g.Size) {
			for name, function := range nodeCalls() {
				checkFails(t, name, function, g, x)
			}
			for name, function := range placeCalls() {
				checkFails(t, name, function, g, x, x)
				for y := range g.Size {
					checkFails(t, name, function, g, x, y)
					checkFails(t, name, function, g, y, x)
				}
			}
			checkFails(t, "IsCorner", impl.IsCorner, g, all, x)
			checkFails(t, "IsCorner", impl.IsCorner, g, []int{x}, x)
		}
	}
}

func TestOneCopWithSetsThatAreNotValid(t *testing.T) {
	for _, g := range []impl.Graph{graph(4), graph(4, 0, 1, 1, 2, 2, 3), graph(4, 0, 1, 0, 3, 1, 2, 2, 3), graphOfBits(4, 63)} {
		all := nodesOf(4)
		for _, set := range [][]int{
			{1, 0}, {0, 0}, {3, 2, 1, 0}, {0, 1, 1}, {0, 2, 1}, {1, 2, 3, 3}, {0, 1, 2, 3, 3}, {0, 0, 1, 2, 3},
			{4}, {0, 4}, {0, 1, 2, 3, 4}, {-1}, {-1, 0}, {-1, 0, 1, 2, 3}, {0, 1, math.MaxInt}, {math.MinInt, 0, 1},
			make([]int, 1<<20), nodesOf(1 << 16),
		} {
			checkFails(t, "CornersOf", impl.CornersOf, g, set)
			for _, x := range []int{0, 1, 3, set[0], set[len(set)-1]} {
				checkFails(t, "IsCorner", impl.IsCorner, g, set, x)
			}
			checkFails(t, "IsRoom", impl.IsRoom, g, set, all)
			checkFails(t, "IsRoom", impl.IsRoom, g, set, []int{})
			checkFails(t, "IsRoom", impl.IsRoom, g, set, set)
		}
		for x := range 4 {
			checkFails(t, "IsCorner of nothing", impl.IsCorner, g, []int{}, x)
			is, ok := impl.IsCorner(g, []int{x}, x)
			checkTold(t, "the set of one node", is, ok, false)
		}
	}
}

// checkPromise3 checks the guarantee of the chapter for a Graph with nodes.
func checkPromise3(t *testing.T, g impl.Graph) {
	t.Helper()
	wins, one := impl.OneCopWins(g)
	core, two := impl.CoreOf(g)
	to, three := impl.RetractionOf(g)
	count, four := impl.CountDismantlings(g)
	order, dismantled := impl.DismantlingOf(g)
	if !one || !two || !three || !four || wins != dismantled || wins != (len(core) == 1) || wins != (count > 0) {
		t.Error("wins", g, wins, core, count, order)
	}
	if is, ok := impl.IsRetraction(g, to); !ok || !is {
		t.Error("no retraction", g, to)
	}
	if is, ok := impl.IsRoom(g, core, to); !ok || is == wins {
		t.Error("room", g, core, to)
	}
	if is, ok := impl.IsDismantling(g, order); !ok || is != wins {
		t.Error("dismantling", g, order)
	}
	checkShadows(t, g)
}

// checkShadows checks that shadows of neighbors are the same or neighbors.
func checkShadows(t *testing.T, g impl.Graph) {
	t.Helper()
	closed := closedIn(g)
	for _, e := range g.Edges {
		first, one := impl.ShadowsOf(g, e[0])
		second, two := impl.ShadowsOf(g, e[1])
		if !one || !two || len(first) != len(second) || len(first) == 0 {
			t.Fatal("no shadows", g, e)
		}
		for i := range first {
			if !closed[first[i]][second[i]] {
				t.Error("shadows", g, e, first, second)
			}
		}
	}
}

func TestPromise3OneCopAndDismantlings(t *testing.T) {
	for _, g := range append(gameGraphs(), allGraphs(6)...) {
		if g.Size > 0 {
			checkPromise3(t, g)
		}
	}
}

func TestPromise3OneCopWinsWhereNoRoomIs(t *testing.T) {
	for _, g := range smallGraphs(4)[1:] {
		rooms := 0
		for _, to := range listsOver(g.Size, 0, g.Size-1) {
			for _, set := range subsetsOf(g.Size) {
				if is, ok := impl.IsRoom(g, set, to); ok && is {
					rooms++
				}
			}
		}
		wins, ok := impl.OneCopWins(g)
		checkTold(t, "one cop on "+textOf(g), wins, ok, rooms == 0)
	}
}

// checkOneCopCalls makes all calls of a Graph with some nodes and lists.
func checkOneCopCalls(t *testing.T, g impl.Graph) {
	t.Helper()
	for name, function := range filledCalls() {
		checkCall(t, name, function, g)
	}
	checkCall(t, "CopTimes", impl.CopTimes, g)
	for _, x := range []int{0, 1, 3, g.Size - 1, g.Size, -1, math.MaxInt, math.MinInt} {
		for name, function := range nodeCalls() {
			checkCall(t, name, function, g, x)
		}
		for name, function := range placeCalls() {
			for _, y := range []int{0, 2, x, g.Size - 1, -1, math.MaxInt} {
				checkCall(t, name, function, g, x, y)
			}
		}
	}
	all := nodesOf(max(g.Size, 0) % 10)
	for _, list := range [][]int{nil, {}, {0}, {0, 1}, {1, 0}, {2, 0, 1}, {0, 1, 0}, {1, 1, 1, 1}, {0, 3}, all, {-1, 0}, {math.MinInt, math.MaxInt}} {
		// The room behind the list is what an append to it would write to.
		room := append(slices.Clone(list), -7, -8)
		set, behind := room[:len(list)], room[len(list):]
		checkCall(t, "CornersOf", impl.CornersOf, g, set)
		checkCall(t, "IsCorner", impl.IsCorner, g, set, 0)
		checkCall(t, "IsDismantling", impl.IsDismantling, g, set)
		checkCall(t, "IsRetraction", impl.IsRetraction, g, set)
		checkCall(t, "IsRoom", impl.IsRoom, g, set, all)
		checkCall(t, "IsRoom", impl.IsRoom, g, all, set)
		checkCall(t, "IsRoom", impl.IsRoom, g, set, set)
		if !slices.Equal(behind, []int{-7, -8}) {
			t.Fatal("written behind the list", g, list, behind)
		}
	}
}

func TestOneCopLeavesItsArgumentsAlone(t *testing.T) {
	checkWithRoom(t, append(fewGraphs(), treeGraphs()[:10]...), checkOneCopCalls)
}

// callAll makes all calls of a Graph, with all its nodes and sets, and forgets the results.
func callAll(g impl.Graph) {
	call := func(function any, arguments ...any) {
		reflect.ValueOf(function).Call(valuesOf(arguments))
	}
	for _, function := range filledCalls() {
		call(function, g)
	}
	impl.CopTimes(g)
	for x := range g.Size {
		for _, function := range nodeCalls() {
			call(function, g, x)
		}
		for y := range g.Size {
			for _, function := range placeCalls() {
				call(function, g, x, y)
			}
		}
	}
	all := nodesOf(g.Size)
	for _, set := range subsetsOf(g.Size) {
		impl.CornersOf(g, set)
		impl.IsCorner(g, set, 0)
		impl.IsRoom(g, set, all)
	}
	impl.IsDismantling(g, all)
	impl.IsRetraction(g, all)
}

func TestOneCopReturnsInTime(t *testing.T) {
	checkInTime(t, func() {
		for _, g := range append(greatGraphs(), treeGraphs()...) {
			callAll(g)
		}
	})
}
