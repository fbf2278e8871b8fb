package tests

import (
	"cmp"
	"math"
	"math/bits"
	"slices"
	"strconv"
	"testing"

	"loop.example/g01109/impl"
)

// frontBy returns the nodes of a set that have a neighbor which is not in it.
func frontBy(g impl.Graph, set []int) []int {
	closed, front := closedIn(g), []int{}
	for _, x := range set {
		for y := range g.Size {
			if closed[x][y] && !slices.Contains(set, y) {
				front = append(front, x)
				break
			}
		}
	}
	return front
}

// frontsBy returns the number of nodes in the front of each set, by the bits of the set.
func frontsBy(g impl.Graph) []int {
	var fronts []int
	for _, set := range subsetsOf(g.Size) {
		fronts = append(fronts, len(frontBy(g, set)))
	}
	return fronts
}

// frontSizesBy returns the numbers of nodes in the fronts of the first nodes of a layout.
func frontSizesBy(fronts []int, layout []int) []int {
	sizes, first := []int{}, 0
	for _, x := range layout {
		first |= 1 << x
		sizes = append(sizes, fronts[first])
	}
	return sizes
}

// separationBy returns the greatest one of the numbers, 0 if there are none.
func separationBy(sizes []int) int {
	return slices.Max(append([]int{0}, sizes...))
}

// layoutsBy returns the least separation of some layouts, and the first one with it.
func layoutsBy(g impl.Graph, layouts [][]int) (int, []int) {
	fronts, width := frontsBy(g), math.MaxInt
	var best []int
	for _, layout := range layouts {
		if separation := separationBy(frontSizesBy(fronts, layout)); separation < width {
			width, best = separation, layout
		}
	}
	return width, best
}

// frontBoundBy returns the greatest one, over all numbers of nodes, of the least fronts.
func frontBoundBy(g impl.Graph) int {
	greatest := 0
	for m := range g.Size + 1 {
		least := math.MaxInt
		for _, set := range subsetsOf(g.Size) {
			if len(set) == m {
				least = min(least, len(frontBy(g, set)))
			}
		}
		greatest = max(greatest, least)
	}
	return greatest
}

// bagsBy returns the bags of a layout by the description of BagsOfLayout.
func bagsBy(g impl.Graph, layout []int) [][]int {
	closed, bags := closedIn(g), [][]int{}
	for i, x := range layout {
		bag := []int{x}
		for _, y := range layout[:i] {
			if slices.ContainsFunc(layout[i:], func(z int) bool { return closed[y][z] }) {
				bag = append(bag, y)
			}
		}
		slices.Sort(bag)
		bags = append(bags, bag)
	}
	return bags
}

// isPathBy tells by the description whether lists are a path decomposition.
func isPathBy(g impl.Graph, bags [][]int) bool {
	if len(bags) > 16 || slices.ContainsFunc(bags, func(bag []int) bool { return !isSetBy(g.Size, bag) }) {
		return false
	}
	for x := range g.Size {
		if !isTogetherBy(bags, [2]int{x, x}) {
			return false
		}
		for i := range bags {
			between := slices.ContainsFunc(bags[:i], func(bag []int) bool { return slices.Contains(bag, x) }) &&
				slices.ContainsFunc(bags[i:], func(bag []int) bool { return slices.Contains(bag, x) })
			if between && !slices.Contains(bags[i], x) {
				return false
			}
		}
	}
	return !slices.ContainsFunc(g.Edges, func(e [2]int) bool { return !isTogetherBy(bags, e) })
}

// bagsWidth returns the width of bags.
func bagsWidth(bags [][]int) int {
	width := 0
	for _, bag := range bags {
		width = max(width, len(bag)-1)
	}
	return width
}

// layoutOfBagsBy orders the nodes by their first bags and by their numbers.
func layoutOfBagsBy(size int, bags [][]int) []int {
	first := func(x int) int {
		return slices.IndexFunc(bags, func(bag []int) bool { return slices.Contains(bag, x) })
	}
	return slices.SortedFunc(slices.Values(nodesOf(size)), func(x, y int) int {
		return cmp.Or(first(x)-first(y), x-y)
	})
}

// searched is what a program does.
type searched struct {
	unsafe [][]int // after each step
	used   int
	clears bool
	steady bool
}

// spreadBy returns the bits of the nodes to which ways from unsafe nodes lead, none of whose nodes
// has a searcher.
func spreadBy(closed closedTable, unsafe int, searchers int) int {
	met := 0
	for x := range 8 {
		if unsafe>>x&1 == 1 && searchers>>x&1 == 0 {
			met |= reachBy(closed, x, searchers)
		}
	}
	return met
}

// searchedBy follows a program step by step, and tells whether it is one.
func searchedBy(g impl.Graph, program []int) (searched, bool) {
	told := searched{steady: true}
	closed, sets := closedIn(g), subsetsOf(g.Size)
	at, unsafe := map[int]bool{}, len(sets)-1
	for _, step := range program {
		x, put := step, step >= 0
		if !put {
			x = -(step + 1)
		}
		if x >= g.Size || at[x] == put || len(program) > 40 {
			return searched{}, false
		}
		at[x] = put
		searchers, number := 0, 0
		for y := range g.Size {
			if at[y] {
				searchers, number = searchers|1<<y, number+1
			}
		}
		after := spreadBy(closed, unsafe, searchers)
		told.steady = told.steady && after&unsafe == after
		unsafe = after
		told.used = max(told.used, number)
		told.unsafe = append(told.unsafe, sets[unsafe])
	}
	told.clears = unsafe == 0
	return told, true
}

// programOfLayoutBy returns the program of a layout by the description.
func programOfLayoutBy(g impl.Graph, layout []int) []int {
	closed, program := closedIn(g), []int{}
	var there []int
	for i, x := range layout {
		program, there = append(program, x), append(there, x)
		had := layout[:i+1]
		for y := range g.Size {
			missing := slices.ContainsFunc(nodesOf(g.Size), func(z int) bool { return closed[y][z] && !slices.Contains(had, z) })
			if slices.Contains(there, y) && !missing {
				program, there = append(program, -1-y), without(there, y)
			}
		}
	}
	return program
}

// programOf returns the program that puts a searcher at each node of a list, in turn, or takes
// away the one that is there.
func programOf(nodes []int) []int {
	program, there := []int{}, map[int]bool{}
	for _, x := range nodes {
		if there[x] {
			program = append(program, -1-x)
		} else {
			program = append(program, x)
		}
		there[x] = !there[x]
	}
	return program
}

// searchGame has, for the bits of searchers and of unsafe nodes, the number of steps that k
// searchers need from there on, -1 if they cannot clear the Graph.
type searchGame struct {
	g      impl.Graph
	k      int
	spread [][]int // for searchers and unsafe nodes, the nodes that are unsafe then
	left   [][]int
}

func searchGameBy(g impl.Graph) searchGame {
	game, closed := searchGame{g: g}, closedIn(g)
	for searchers := range 1 << g.Size {
		row := make([]int, 1<<g.Size)
		for unsafe := range row {
			// Where the greatest unsafe node leads to comes to where the others lead to.
			greatest := 1 << bits.Len(uint(unsafe)) >> 1
			row[unsafe] = row[unsafe&^greatest] | spreadBy(closed, greatest, searchers)
		}
		game.spread = append(game.spread, row)
	}
	return game
}

// of returns the game with k searchers. Round by round, the situations come up that lead to one of
// the round before by a step.
func (game searchGame) of(k int) searchGame {
	game.k, game.left = k, nil
	for range game.spread {
		row := slices.Repeat([]int{-1}, len(game.spread))
		row[0] = 0
		game.left = append(game.left, row)
	}
	for round, changed := 1, true; changed; round++ {
		changed = false
		for searchers, row := range game.left {
			for unsafe, left := range row {
				if left < 0 && game.firstStep(searchers, unsafe, round-1) < game.g.Size {
					row[unsafe], changed = round, true
				}
			}
		}
	}
	return game
}

// firstStep returns the least step to a situation from where so many steps are needed, and the Size
// if there is none.
func (game searchGame) firstStep(searchers int, unsafe int, left int) int {
	for step := -game.g.Size; step < game.g.Size; step++ {
		x, put := step, 1
		if step < 0 {
			x, put = -1-step, 0
		}
		next := searchers ^ 1<<x
		if searchers>>x&1 == put || bits.OnesCount(uint(next)) > game.k {
			continue
		}
		if game.left[next][game.spread[next][unsafe]] == left {
			return step
		}
	}
	return game.g.Size
}

// first returns the first one of the shortest clearing programs, nil if there is none.
func (game searchGame) first() []int {
	searchers, unsafe := 0, len(game.spread)-1
	left := game.left[searchers][unsafe]
	if left < 0 {
		return nil
	}
	program := []int{}
	for left > 0 {
		left--
		step := game.firstStep(searchers, unsafe, left)
		program = append(program, step)
		searchers ^= 1 << max(step, -1-step)
		unsafe = game.spread[searchers][unsafe]
	}
	return program
}

// differentGraphs returns a Graph of each kind of a Size: the others are those with other numbers of
// the nodes.
func differentGraphs(size int) []impl.Graph {
	var all []impl.Graph
	pairs, orders := pairsOf(size), ordersOf(size)
	seen := make([]bool, 1<<len(pairs))
	for bits := range seen {
		if seen[bits] {
			continue
		}
		g := graphOfBits(size, bits)
		all = append(all, g)
		for _, order := range orders {
			other := 0
			for _, e := range g.Edges {
				x, y := order[e[0]], order[e[1]]
				other |= 1 << slices.Index(pairs, [2]int{min(x, y), max(x, y)})
			}
			seen[other] = true
		}
	}
	return all
}

// spider returns the tree of three rows of two nodes that begin at node 0.
func spider() impl.Graph {
	return graph(7, 0, 1, 0, 3, 0, 5, 1, 2, 3, 4, 5, 6)
}

func TestLimitsOfSearching(t *testing.T) {
	if impl.MaxBags != 16 || impl.MaxProgram != 40 {
		t.Error(impl.MaxBags, impl.MaxProgram)
	}
}

func TestFrontsByHand(t *testing.T) {
	star, parts := graph(4, 0, 1, 0, 2, 0, 3), graph(5, 0, 1, 2, 3)
	for _, c := range []struct {
		name string
		g    impl.Graph
		set  []int
		want []int
	}{
		{"no nodes", graph(0), nil, nil},
		{"one node", graph(1), []int{0}, nil},
		{"none of one node", graph(1), nil, nil},
		{"a node without neighbors", graph(8), []int{3}, nil},
		{"all of eight nodes apart", graph(8), nodesOf(8), nil},
		{"none of a row", inRow(3), nil, nil},
		{"the end of a row", inRow(3), []int{0}, []int{0}},
		{"the middle of a row", inRow(3), []int{1}, []int{1}},
		{"two of a row", inRow(3), []int{0, 1}, []int{1}},
		{"both ends of a row", inRow(3), []int{0, 2}, []int{0, 2}},
		{"a row", inRow(3), []int{0, 1, 2}, nil},
		{"the middle of eight in a row", inRow(8), []int{2, 3, 4, 5}, []int{2, 5}},
		{"the middle of a star", star, []int{0}, []int{0}},
		{"leaves of a star", star, []int{1, 2}, []int{1, 2}},
		{"all leaves of a star", star, []int{1, 2, 3}, []int{1, 2, 3}},
		{"a star without a leaf", star, []int{0, 1, 3}, []int{0}},
		{"a part", parts, []int{0, 1}, nil},
		{"some of two parts", parts, []int{0, 2, 3}, []int{0}},
		{"a node without neighbors and another", parts, []int{0, 4}, []int{0}},
		{"three of a cycle", cycle(5, 5), []int{0, 1, 2}, []int{0, 2}},
		{"all but one", complete(8), nodesOf(7), nodesOf(7)},
		{"all", complete(8), nodesOf(8), nil},
	} {
		front, ok := impl.FrontOf(c.g, c.set)
		checkList(t, "front of "+c.name, front, ok, c.want)
	}
}

func TestFrontsOfAllSets(t *testing.T) {
	t.Parallel()
	for _, g := range sampleGraphs() {
		for _, set := range subsetsOf(g.Size) {
			front, ok := impl.FrontOf(g, set)
			checkList(t, "front in "+textOf(g), front, ok, frontBy(g, set))
		}
	}
}

func TestSetsWithoutFront(t *testing.T) {
	for _, g := range fewGraphs() {
		sets := [][]int{{0, 0}, {1, 0}, append(nodesOf(g.Size), g.Size), append([]int{-1}, nodesOf(g.Size)...), make([]int, 1<<20)}
		for _, x := range farNumbers(g.Size) {
			sets = append(sets, []int{x}, []int{0, x}, []int{x, 0})
		}
		for x := range g.Size {
			sets = append(sets, append(nodesOf(g.Size), x))
		}
		for _, set := range sets {
			checkFails(t, "FrontOf", impl.FrontOf, g, set)
		}
	}
	for length := range 4 {
		for _, set := range listsOver(length, -1, 3) {
			if !isSetBy(3, set) {
				checkFails(t, "FrontOf", impl.FrontOf, inRow(3), set)
			}
		}
	}
}

func TestLayoutsByHand(t *testing.T) {
	for _, c := range []struct {
		name    string
		g       impl.Graph
		layout  []int
		sizes   []int
		bags    [][]int
		program []int
	}{
		{"no nodes", graph(0), nil, nil, nil, nil},
		{"one node", graph(1), []int{0}, []int{0}, [][]int{{0}}, []int{0, -1}},
		{"two nodes apart", graph(2), []int{1, 0}, []int{0, 0}, [][]int{{1}, {0}}, []int{1, -2, 0, -1}},
		{"two neighbors", inRow(2), []int{1, 0}, []int{1, 0}, [][]int{{1}, {0, 1}}, []int{1, 0, -1, -2}},
		{"a row", inRow(3), []int{0, 1, 2}, []int{1, 1, 0}, [][]int{{0}, {0, 1}, {1, 2}}, []int{0, 1, -1, 2, -2, -3}},
		{"a row, its middle first", inRow(3), []int{1, 0, 2}, []int{1, 1, 0}, [][]int{{1}, {0, 1}, {1, 2}}, []int{1, 0, -1, 2, -2, -3}},
		{"a row, its middle last", inRow(3), []int{2, 0, 1}, []int{1, 2, 0}, [][]int{{2}, {0, 2}, {0, 1, 2}}, []int{2, 0, 1, -1, -2, -3}},
		{"a cycle", cycle(4, 4), []int{0, 1, 2, 3}, []int{1, 2, 2, 0}, [][]int{{0}, {0, 1}, {0, 1, 2}, {0, 2, 3}}, []int{0, 1, 2, -2, 3, -1, -3, -4}},
		{"a cycle, opposite nodes first", cycle(4, 4), []int{3, 1, 2, 0}, []int{1, 2, 2, 0}, [][]int{{3}, {1, 3}, {1, 2, 3}, {0, 1, 3}}, []int{3, 1, 2, -3, 0, -1, -2, -4}},
		{"a star", graph(4, 0, 3, 1, 3, 2, 3), []int{2, 1, 3, 0}, []int{1, 2, 1, 0}, [][]int{{2}, {1, 2}, {1, 2, 3}, {0, 3}}, []int{2, 1, 3, -2, -3, 0, -1, -4}},
		{"a star from its middle", graph(4, 0, 3, 1, 3, 2, 3), []int{3, 1, 0, 2}, []int{1, 1, 1, 0}, [][]int{{3}, {1, 3}, {0, 3}, {2, 3}}, []int{3, 1, -2, 0, -1, 2, -3, -4}},
		{"a node without neighbors", graph(3, 0, 2), []int{0, 1, 2}, []int{1, 1, 0}, [][]int{{0}, {0, 1}, {0, 2}}, []int{0, 1, -2, 2, -1, -3}},
		{"two parts", graph(4, 0, 2, 1, 3), []int{0, 1, 2, 3}, []int{1, 2, 1, 0}, [][]int{{0}, {0, 1}, {0, 1, 2}, {1, 3}}, []int{0, 1, 2, -1, -3, 3, -2, -4}},
		{"four nodes with all edges", complete(4), []int{2, 0, 3, 1}, []int{1, 2, 3, 0}, [][]int{{2}, {0, 2}, {0, 2, 3}, {0, 1, 2, 3}}, []int{2, 0, 3, 1, -1, -2, -3, -4}},
	} {
		is, ok := impl.IsLayout(c.g, c.layout)
		checkTold(t, "layout of "+c.name, is, ok, true)
		sizes, ok := impl.FrontSizes(c.g, c.layout)
		checkList(t, "fronts of "+c.name, sizes, ok, c.sizes)
		bags, ok := impl.BagsOfLayout(c.g, c.layout)
		checkTable(t, "bags of "+c.name, bags, ok, c.bags)
		program, ok := impl.ProgramOfLayout(c.g, c.layout)
		checkList(t, "program of "+c.name, program, ok, c.program)
	}
}

// checkLayout compares what is told of one layout, and checks the sentences about it.
func checkLayout(t *testing.T, g impl.Graph, fronts []int, layout []int) {
	t.Helper()
	is, ok := impl.IsLayout(g, layout)
	checkTold(t, "layout of "+textOf(g), is, ok, true)
	want := frontSizesBy(fronts, layout)
	separation := separationBy(want)
	sizes, ok := impl.FrontSizes(g, layout)
	checkList(t, "fronts of "+textOf(g), sizes, ok, want)
	bags, ok := impl.BagsOfLayout(g, layout)
	checkTable(t, "bags of "+textOf(g), bags, ok, bagsBy(g, layout))
	is, ok = impl.IsPathDecomposition(g, bags)
	checkTold(t, "bags of the layout of "+textOf(g), is, ok, true)
	if bagsWidth(bags) != separation {
		t.Error("width", g, layout, bags, separation)
	}
	program, ok := impl.ProgramOfLayout(g, layout)
	checkList(t, "program of "+textOf(g), program, ok, programOfLayoutBy(g, layout))
	clears, ok := impl.IsClearing(g, program)
	checkTold(t, "clearing "+textOf(g), clears, ok, true)
	steady, ok := impl.IsSteady(g, program)
	checkTold(t, "steady on "+textOf(g), steady, ok, true)
	used, ok := impl.SearchersUsed(g, program)
	if !ok || used > separation+1 {
		t.Error("searchers", g, layout, program, used, separation)
	}
}

func TestAllLayoutsOfSmallGraphs(t *testing.T) {
	t.Parallel()
	for _, g := range append(smallGraphs(4), eachOf(allGraphs(5), 13)...) {
		fronts := frontsBy(g)
		for _, layout := range ordersOf(g.Size) {
			checkLayout(t, g, fronts, layout)
		}
	}
}

func TestLayoutsOfGreatGraphs(t *testing.T) {
	t.Parallel()
	layouts := ordersBySize(30)
	for _, g := range append(greatGraphs(), treeGraphs()...) {
		fronts := frontsBy(g)
		for _, layout := range layouts[g.Size] {
			checkLayout(t, g, fronts, layout)
		}
	}
}

// layoutCalls are the functions of one Graph and a layout.
func layoutCalls() map[string]any {
	return map[string]any{
		"FrontSizes": impl.FrontSizes, "BagsOfLayout": impl.BagsOfLayout, "ProgramOfLayout": impl.ProgramOfLayout,
	}
}

func TestListsThatAreNoLayout(t *testing.T) {
	for _, g := range fewGraphs() {
		for _, list := range noOrders(g.Size) {
			is, ok := impl.IsLayout(g, list)
			checkTold(t, "no layout", is, ok, false)
			for name, function := range layoutCalls() {
				checkFails(t, name, function, g, list)
			}
		}
	}
}

// checkBest compares what is told of the least separation of a Graph.
func checkBest(t *testing.T, name string, g impl.Graph, want int, best []int) {
	t.Helper()
	width, ok := impl.PathwidthOf(g)
	checkNumber(t, "pathwidth of "+name, width, ok, want)
	layout, ok := impl.BestLayout(g)
	checkList(t, "best layout of "+name, layout, ok, best)
}

func TestPathwidthsByHand(t *testing.T) {
	sides := graphBy(8, func(x, y int) bool { return x < 4 && y >= 4 })
	for _, c := range []struct {
		name  string
		g     impl.Graph
		width int
		best  []int
		bound int
	}{
		{"no nodes", graph(0), 0, nil, 0},
		{"one node", graph(1), 0, []int{0}, 0},
		{"two nodes apart", graph(2), 0, nodesOf(2), 0},
		{"eight nodes apart", graph(8), 0, nodesOf(8), 0},
		{"two neighbors", inRow(2), 1, nodesOf(2), 1},
		{"an edge and two nodes", graph(4, 2, 3), 1, nodesOf(4), 0},
		{"eight in a row", inRow(8), 1, nodesOf(8), 1},
		{"a row, its middle first", graph(3, 0, 1, 0, 2), 1, nodesOf(3), 1},
		{"a row with other numbers", graph(4, 0, 3, 1, 2, 1, 3), 1, []int{0, 3, 1, 2}, 1},
		{"a star", graph(6, 0, 1, 0, 2, 0, 3, 0, 4, 0, 5), 1, nodesOf(6), 1},
		{"a star, its middle last", graph(5, 0, 4, 1, 4, 2, 4, 3, 4), 1, []int{0, 4, 1, 2, 3}, 1},
		{"a tree of three rows", spider(), 2, nodesOf(7), 2},
		{"a cycle of three", cycle(3, 3), 2, nodesOf(3), 2},
		{"a cycle of four", cycle(4, 4), 2, nodesOf(4), 2},
		{"a cycle of eight", cycle(8, 8), 2, nodesOf(8), 2},
		{"a cycle of four and a node", cycle(5, 4), 2, nodesOf(5), 2},
		{"two cycles of three", graph(6, 0, 2, 0, 4, 1, 3, 1, 5, 2, 4, 3, 5), 2, []int{0, 2, 4, 1, 3, 5}, 2},
		{"four nodes with all edges", complete(4), 3, nodesOf(4), 3},
		{"two sides", sides, 4, nodesOf(8), 4},
		{"a complete Graph", complete(8), 7, nodesOf(8), 7},
	} {
		checkBest(t, c.name, c.g, c.width, c.best)
		bound, ok := impl.FrontBound(c.g)
		checkNumber(t, "bound of "+c.name, bound, ok, c.bound)
	}
	// The pathwidth of the cube is greater than its treewidth, that of the ladder is not.
	for _, g := range []impl.Graph{cube(), ladder()} {
		width, ok := impl.PathwidthOf(g)
		checkNumber(t, "pathwidth of "+textOf(g), width, ok, 4)
	}
}

func TestBestOfAllLayouts(t *testing.T) {
	t.Parallel()
	for size := range 6 {
		layouts := ordersOf(size)
		for _, g := range allGraphs(size) {
			width, best := layoutsBy(g, layouts)
			checkBest(t, textOf(g), g, width, best)
		}
	}
	for size := 6; size <= impl.MaxSize; size++ {
		layouts := ordersOf(size)
		for _, g := range append(greatGraphs(), eachOf(treeGraphs(), 4)...) {
			if g.Size == size {
				width, best := layoutsBy(g, layouts)
				checkBest(t, textOf(g), g, width, best)
			}
		}
	}
}

func TestBoundsOfAllSets(t *testing.T) {
	t.Parallel()
	less := 0
	for _, g := range append(sampleGraphs(), treeGraphs()...) {
		want := frontBoundBy(g)
		bound, ok := impl.FrontBound(g)
		checkNumber(t, "bound of "+textOf(g), bound, ok, want)
		width, ok := impl.PathwidthOf(g)
		if !ok || bound > width {
			t.Error("a bound that is too great", g, bound, width)
		}
		if bound < width {
			less++
		}
	}
	if less < 10 {
		t.Error("few bounds that are not met:", less)
	}
}

// checkBags compares what is told of bags, and returns whether they are a path decomposition.
func checkBags(t *testing.T, name string, g impl.Graph, bags [][]int) bool {
	t.Helper()
	want := isPathBy(g, bags)
	got, ok := impl.IsPathDecomposition(g, bags)
	if !ok || got != want {
		t.Errorf("%s: bags %.300v of %v: got %v, %v, want %v", name, bags, g, got, ok, want)
	}
	if !want {
		checkFails(t, "LayoutOfBags of "+name, impl.LayoutOfBags, g, bags)
		return false
	}
	layout, ok := impl.LayoutOfBags(g, bags)
	checkList(t, "layout of "+name, layout, ok, layoutOfBagsBy(g.Size, bags))
	if sizes, ok := impl.FrontSizes(g, layout); !ok || separationBy(sizes) > bagsWidth(bags) {
		t.Error("a separation that is too great", g, bags, layout, sizes)
	}
	return true
}

func TestPathDecompositionsByHand(t *testing.T) {
	path, ring := inRow(3), cycle(4, 4)
	one := slices.Collect(slices.Chunk(nodesOf(8), 1))
	for _, c := range []struct {
		name   string
		g      impl.Graph
		bags   [][]int
		layout []int // nil if the bags are no path decomposition
	}{
		{"two bags", path, [][]int{{0, 1}, {1, 2}}, []int{0, 1, 2}},
		{"two bags, the last nodes first", path, [][]int{{1, 2}, {0, 1}}, []int{1, 2, 0}},
		{"one bag", path, [][]int{{0, 1, 2}}, []int{0, 1, 2}},
		{"no bags", path, nil, nil},
		{"no bags of one node", graph(1), nil, nil},
		{"no nodes and no bags", graph(0), nil, []int{}},
		{"no nodes and a bag", graph(0), [][]int{{}}, []int{}},
		{"no nodes and MaxBags bags", graph(0), make([][]int, 16), []int{}},
		{"no nodes and a bag more", graph(0), make([][]int, 17), nil},
		{"no nodes and a bag with one", graph(0), [][]int{{0}}, nil},
		{"one node", graph(1), [][]int{{0}}, []int{0}},
		{"one node in no bag", graph(1), [][]int{{}}, nil},
		{"one node in MaxBags bags", graph(1), slices.Repeat([][]int{{0}}, 16), []int{0}},
		{"one node in a bag more", graph(1), slices.Repeat([][]int{{0}}, 17), nil},
		{"a width of 0", graph(8), one, nodesOf(8)},
		{"a width of 0, backwards", graph(3), [][]int{{2}, {1}, {0}}, []int{2, 1, 0}},
		{"a width of 0, each bag twice", graph(8), slices.Concat(one[:1], one[:1], one[1:2], one[1:2], one[2:]), nodesOf(8)},
		{"a width of 0, MaxBags bags", graph(8), append(slices.Clone(one), make([][]int, 8)...), nodesOf(8)},
		{"a width of 0, a bag more", graph(8), append(slices.Clone(one), make([][]int, 9)...), nil},
		{"MaxBags bags of all nodes", complete(8), slices.Repeat([][]int{nodesOf(8)}, 16), nodesOf(8)},
		{"all nodes in the last of MaxBags bags", complete(8), append(make([][]int, 15), nodesOf(8)), nodesOf(8)},
		{"all nodes in a bag behind these", complete(8), append(make([][]int, 16), nodesOf(8)), nil},
		{"a node in the first and the last of MaxBags bags", graph(1), slices.Concat([][]int{{0}}, make([][]int, 14), [][]int{{0}}), nil},
		{"a node in all but one of MaxBags bags", graph(1), slices.Concat(slices.Repeat([][]int{{0}}, 14), [][]int{{}}, [][]int{{0}}), nil},
		{"bags without nodes at both ends", path, [][]int{{}, {0, 1}, {1, 2}, {}}, []int{0, 1, 2}},
		{"a bag without nodes between others", graph(2), [][]int{{1}, {}, {0}}, []int{1, 0}},
		{"a bag without nodes between those of a node", path, [][]int{{0, 1}, {}, {1, 2}}, nil},
		{"the same bag twice", path, [][]int{{0, 1}, {0, 1}, {1, 2}}, []int{0, 1, 2}},
		{"the same bag twice, apart", path, [][]int{{0, 1}, {1, 2}, {0, 1}}, nil},
		{"a node in all bags", path, [][]int{{1, 2}, {1}, {0, 1}}, []int{1, 2, 0}},
		{"a node not between its bags", path, [][]int{{0, 1}, {0}, {1, 2}}, nil},
		{"the last node not between its bags", path, [][]int{{1, 2}, {0, 1}, {2}}, nil},
		{"not ascending", path, [][]int{{1, 0}, {1, 2}}, nil},
		{"the last bag not ascending", path, [][]int{{0, 1}, {2, 1}}, nil},
		{"a node twice in a bag", path, [][]int{{0, 1, 1}, {1, 2}}, nil},
		{"a node that is not there", path, [][]int{{0, 1}, {1, 2, 3}}, nil},
		{"a node less than 0", path, [][]int{{-1, 0, 1}, {1, 2}}, nil},
		{"a node far away", path, [][]int{{0, 1}, {1, 2, math.MaxInt}}, nil},
		{"a node far below", path, [][]int{{math.MinInt, 0, 1}, {1, 2}}, nil},
		{"a ninth node", complete(8), [][]int{nodesOf(9)}, nil},
		{"a long bag", path, [][]int{{0, 1, 2}, make([]int, 1<<20)}, nil},
		{"many bags", path, make([][]int, 1<<20), nil},
		{"a node in no bag", graph(3), [][]int{{0}, {1}}, nil},
		{"the first node in no bag", graph(3), [][]int{{1}, {2}}, nil},
		{"an edge in no bag", path, [][]int{{0, 1}, {2}}, nil},
		{"the first edge in no bag", path, [][]int{{0}, {1, 2}}, nil},
		{"an edge of a cycle in no bag", ring, [][]int{{0, 1}, {1, 2}, {2, 3}}, nil},
		{"a cycle, a node in bags apart", ring, [][]int{{0, 1}, {1, 2}, {2, 3}, {0, 3}}, nil},
		{"a cycle", ring, [][]int{{0, 1, 3}, {1, 2, 3}}, []int{0, 1, 3, 2}},
		{"a cycle in three bags", ring, [][]int{{2, 3}, {0, 2, 3}, {0, 1, 2}}, []int{2, 3, 0, 1}},
		{"two parts", graph(4, 0, 3, 1, 2), [][]int{{1, 2}, {0, 3}}, []int{1, 2, 0, 3}},
		{"two parts at once", graph(4, 0, 3, 1, 2), [][]int{{1}, {1, 3}, {0, 1, 2, 3}}, []int{1, 3, 0, 2}},
	} {
		if checkBags(t, c.name, c.g, c.bags) != (c.layout != nil) {
			t.Error("by hand:", c.name)
		}
		if c.layout != nil {
			layout, ok := impl.LayoutOfBags(c.g, c.bags)
			checkList(t, c.name, layout, ok, c.layout)
		}
	}
}

func TestPathDecompositionsOfAllLists(t *testing.T) {
	t.Parallel()
	told := map[bool]int{}
	for _, g := range smallGraphs(2) {
		lists := append(subsetsOf(g.Size), []int{1, 0}, []int{0, 0}, []int{g.Size}, []int{-1, 0})
		for length := range 5 {
			for _, bags := range chosenFrom(length, lists) {
				told[checkBags(t, "some lists", g, bags)]++
			}
		}
	}
	for length := range 5 {
		for _, bags := range chosenFrom(length, subsetsOf(3)) {
			for _, g := range allGraphs(3) {
				told[checkBags(t, "some sets", g, bags)]++
			}
		}
	}
	if told[true] < 1000 || told[false] < 10000 {
		t.Error("few of a kind:", told)
	}
}

// changedBags returns what differs from bags in one thing.
func changedBags(size int, bags [][]int) [][][]int {
	all := [][][]int{append([][]int{{}}, bags...), append(slices.Clone(bags), nil)}
	for i, bag := range bags {
		lists := [][]int{nil, append(slices.Clone(bag), size), append([]int{-1}, bag...), append(slices.Clone(bag), bag...)}
		backwards := slices.Clone(bag)
		slices.Reverse(backwards)
		for x := range size {
			other := without(bag, x)
			if len(other) == len(bag) {
				other = slices.Sorted(slices.Values(append(other, x)))
			}
			lists = append(lists, other)
		}
		for _, list := range append(lists, backwards) {
			changed := slices.Clone(bags)
			changed[i] = list
			all = append(all, changed, slices.Insert(slices.Clone(bags), i, list))
		}
		all = append(all, slices.Delete(slices.Clone(bags), i, i+1))
		for j := range i {
			changed := slices.Clone(bags)
			changed[i], changed[j] = changed[j], changed[i]
			all = append(all, changed)
		}
	}
	return all
}

func TestPathDecompositionsWithOneThingChanged(t *testing.T) {
	t.Parallel()
	told := map[bool]int{}
	graphs := append(eachOf(allGraphs(4), 5), eachOf(allGraphs(5), 61)...)
	graphs = append(graphs, greatGraphs()[:30]...)
	for _, g := range append(graphs, treeGraphs()[:20]...) {
		layout := nodesOf(g.Size)
		for range 3 {
			layout = append(layout[1:], layout[0])
			for _, changed := range changedBags(g.Size, bagsBy(g, layout)) {
				told[checkBags(t, "changed bags", g, changed)]++
			}
		}
	}
	if told[true] < 1000 || told[false] < 1000 {
		t.Error("few of a kind:", told)
	}
}

// checkProgram compares what is told of a list of steps, and returns what the program does and
// whether it is one.
func checkProgram(t *testing.T, g impl.Graph, program []int) (searched, bool) {
	t.Helper()
	name := textOf(g)
	want, isOne := searchedBy(g, program)
	is, ok := impl.IsProgram(g, program)
	if !ok || is != isOne {
		t.Errorf("program %.300v on %s: got %v, %v, want %v", program, name, is, ok, isOne)
	}
	if !isOne {
		for call, function := range programCalls() {
			checkFails(t, call, function, g, program)
		}
		return want, false
	}
	sets, ok := impl.RunProgram(g, program)
	checkTable(t, "running on "+name, sets, ok, want.unsafe)
	used, ok := impl.SearchersUsed(g, program)
	checkNumber(t, "searchers on "+name, used, ok, want.used)
	clears, ok := impl.IsClearing(g, program)
	checkTold(t, "clearing "+name, clears, ok, want.clears)
	steady, ok := impl.IsSteady(g, program)
	checkTold(t, "steady on "+name, steady, ok, want.steady)
	return want, true
}

// programCalls are the functions of one Graph and a program.
func programCalls() map[string]any {
	return map[string]any{
		"RunProgram": impl.RunProgram, "SearchersUsed": impl.SearchersUsed,
		"IsClearing": impl.IsClearing, "IsSteady": impl.IsSteady,
	}
}

func TestProgramsByHand(t *testing.T) {
	path, parts := inRow(3), graph(4, 0, 1, 2, 3)
	often := slices.Repeat([]int{0, -1}, 20)
	for _, c := range []struct {
		name    string
		g       impl.Graph
		program []int
		unsafe  [][]int
		used    int
		clears  bool
		steady  bool
	}{
		{"no nodes", graph(0), nil, nil, 0, true, true},
		{"no steps", path, nil, nil, 0, false, true},
		{"no steps on eight nodes apart", graph(8), nil, nil, 0, false, true},
		{"one node", graph(1), []int{0}, [][]int{{}}, 1, true, true},
		{"one node, no searcher left", graph(1), []int{0, -1}, [][]int{{}, {}}, 1, true, true},
		{"one node again and again", graph(1), []int{0, -1, 0, -1, 0}, make([][]int, 5), 1, true, true},
		{"two nodes apart", graph(2), []int{0, -1, 1}, [][]int{{1}, {1}, {}}, 1, true, true},
		{"two nodes apart, the first one only", graph(2), []int{0, -1}, [][]int{{1}, {1}}, 1, false, true},
		{"two neighbors", inRow(2), []int{0, 1}, [][]int{{1}, {}}, 2, true, true},
		{"two neighbors, no searchers left", inRow(2), []int{1, 0, -1, -2}, [][]int{{0}, {}, {}, {}}, 2, true, true},
		{"two neighbors, one searcher", inRow(2), []int{0, -1, 1, -2}, [][]int{{1}, {0, 1}, {0}, {0, 1}}, 1, false, false},
		{"a row", path, []int{0, 1, -1, 2}, [][]int{{1, 2}, {2}, {2}, {}}, 2, true, true},
		{"a row from its middle", path, []int{1, 0, -1, 2}, [][]int{{0, 2}, {2}, {2}, {}}, 2, true, true},
		{"a row, not cleared", path, []int{0, 1}, [][]int{{1, 2}, {2}}, 2, false, true},
		{"a row, unsafe again and cleared", path, []int{0, -1, 1, 0, 2}, [][]int{{1, 2}, {0, 1, 2}, {0, 2}, {2}, {}}, 3, true, false},
		{"a row, unsafe again", path, []int{0, 1, -2}, [][]int{{1, 2}, {2}, {1, 2}}, 2, false, false},
		{"a row, unsafe again behind a searcher", inRow(4), []int{0, 1, 2, -2, -3}, [][]int{{1, 2, 3}, {2, 3}, {3}, {3}, {1, 2, 3}}, 3, false, false},
		{"a row, all of it unsafe again", inRow(4), []int{0, 1, -1, 2, -2, -3}, [][]int{{1, 2, 3}, {2, 3}, {2, 3}, {3}, {3}, {0, 1, 2, 3}}, 2, false, false},
		{"a cleared row, all searchers taken away", path, []int{0, 1, 2, -1, -2, -3}, [][]int{{1, 2}, {2}, {}, {}, {}, {}}, 3, true, true},
		{"searchers go back to a cleared row", path, []int{0, 1, 2, -2, 1}, [][]int{{1, 2}, {2}, {}, {}, {}}, 3, true, true},
		{"one of two parts", parts, []int{0, 1}, [][]int{{1, 2, 3}, {2, 3}}, 2, false, true},
		{"one of two parts, safe without searchers", parts, []int{0, 1, -1, -2}, [][]int{{1, 2, 3}, {2, 3}, {2, 3}, {2, 3}}, 2, false, true},
		{"two parts", parts, []int{0, 1, -1, -2, 3, 2}, [][]int{{1, 2, 3}, {2, 3}, {2, 3}, {2, 3}, {2}, {}}, 2, true, true},
		{"two parts, one searcher each", parts, []int{0, 2}, [][]int{{1, 2, 3}, {1, 3}}, 2, false, true},
		{"a cycle", cycle(4, 4), []int{0, 1, 2, -2, 3}, [][]int{{1, 2, 3}, {2, 3}, {3}, {3}, {}}, 3, true, true},
		{"a cycle, around the other side", cycle(4, 4), []int{0, 1, 2, -1}, [][]int{{1, 2, 3}, {2, 3}, {3}, {0, 3}}, 3, false, false},
		{"a star without its middle", graph(4, 0, 1, 0, 2, 0, 3), []int{1, 2, 3, -2}, [][]int{{0, 2, 3}, {0, 3}, {0}, {0, 1}}, 3, false, false},
		{"a complete Graph", complete(8), nodesOf(8), [][]int{nodesOf(8)[1:], nodesOf(8)[2:], nodesOf(8)[3:], nodesOf(8)[4:], nodesOf(8)[5:], nodesOf(8)[6:], {7}, {}}, 8, true, true},
		{"MaxProgram steps", graph(1), often, make([][]int, 40), 1, true, true},
		{"MaxProgram steps on two neighbors", inRow(2), often, slices.Repeat([][]int{{1}, {0, 1}}, 20), 1, false, false},
	} {
		got, is := checkProgram(t, c.g, c.program)
		if !is || !sameLists(got.unsafe, c.unsafe) || got.used != c.used || got.clears != c.clears || got.steady != c.steady {
			t.Error("by hand:", c.name, got, is)
		}
	}
}

func TestListsThatAreNoProgram(t *testing.T) {
	path := inRow(3)
	often := slices.Repeat([]int{0, -1}, 20)
	for _, c := range []struct {
		name  string
		g     impl.Graph
		steps []int
	}{
		{"a step without nodes", graph(0), []int{0}},
		{"a searcher taken away without nodes", graph(0), []int{-1}},
		{"a node that is not there", path, []int{3}},
		{"a node that is not there, later", path, []int{0, 1, 3}},
		{"a ninth node", complete(8), []int{8}},
		{"a searcher taken from a node that is not there", path, []int{-4}},
		{"a searcher taken from a ninth node", complete(8), []int{-9}},
		{"a searcher where there is one", path, []int{0, 0}},
		{"a searcher where there is one, later", path, []int{0, 1, -1, 0, 2, 0}},
		{"a searcher taken from where there is none", path, []int{-1}},
		{"a searcher taken from where there is none, later", path, []int{0, 1, -3}},
		{"a searcher taken away twice", path, []int{0, -1, -1}},
		{"the greatest number", path, []int{math.MaxInt}},
		{"the least number", path, []int{math.MinInt}},
		{"the numbers beside them", path, []int{0, math.MaxInt - 1}},
		{"the numbers beside them, below", path, []int{0, math.MinInt + 1}},
		{"the greatest number on eight nodes", complete(8), []int{0, math.MaxInt}},
		{"the least number on eight nodes", complete(8), []int{0, math.MinInt}},
		{"one step more than MaxProgram", graph(1), append(slices.Clone(often), 0)},
		{"two steps more than MaxProgram", path, append(slices.Clone(often), 0, -1)},
		{"MaxProgram steps, the last one wrong", path, append(slices.Clone(often[:39]), 0)},
		{"a long list", path, make([]int, 1<<20)},
	} {
		if _, is := checkProgram(t, c.g, c.steps); is {
			t.Error("by hand:", c.name)
		}
	}
	for _, g := range fewGraphs() {
		for _, x := range farNumbers(g.Size) {
			// Of these numbers, some take the searcher from a node.
			steps := append(nodesOf(g.Size), x)
			if _, is := checkProgram(t, g, steps); is != (x < 0 && -1-x < g.Size) {
				t.Error("a number", g, x)
			}
		}
	}
}

// checkKinds checks that there are programs of each kind among those that were checked.
func checkKinds(t *testing.T, told map[[2]bool]int) {
	t.Helper()
	for _, kind := range [][2]bool{{false, false}, {false, true}, {true, false}, {true, true}} {
		if told[kind] < 100 {
			t.Error("few of a kind (clearing, steady):", told)
		}
	}
}

func TestAllShortListsOfSteps(t *testing.T) {
	t.Parallel()
	told := map[bool]int{}
	for _, g := range smallGraphs(3) {
		for length := range 7 - g.Size {
			for _, steps := range listsOver(length, -g.Size-2, g.Size+1) {
				_, is := checkProgram(t, g, steps)
				told[is]++
			}
		}
	}
	if told[true] < 100 || told[false] < 10000 {
		t.Error("few of a kind:", told)
	}
}

func TestAllShortPrograms(t *testing.T) {
	t.Parallel()
	told := map[[2]bool]int{}
	for _, g := range append(smallGraphs(3), eachOf(allGraphs(4), 3)...) {
		for _, nodes := range listsOver(6, 0, g.Size-1) {
			got, is := checkProgram(t, g, programOf(nodes))
			if !is {
				t.Error("a program", g, nodes)
			}
			told[[2]bool{got.clears, got.steady}]++
		}
	}
	checkKinds(t, told)
}

func TestLongPrograms(t *testing.T) {
	t.Parallel()
	bits := 5
	for _, g := range append(greatGraphs(), treeGraphs()...) {
		for range 5 {
			var nodes []int
			for range impl.MaxProgram {
				bits = bits * 48271 % 2147483647
				nodes = append(nodes, bits%g.Size)
			}
			if _, is := checkProgram(t, g, programOf(nodes)); !is {
				t.Error("a program", g, nodes)
			}
			if _, is := checkProgram(t, g, programOf(append(nodes, 0))); is {
				t.Error("a step more", g, nodes)
			}
		}
	}
}

// changedPrograms returns what differs from a program in one thing.
func changedPrograms(size int, program []int) [][]int {
	all := [][]int{append(slices.Clone(program), 0), append(slices.Clone(program), -1)}
	for i := range program {
		for step := -size - 1; step <= size; step++ {
			changed := slices.Clone(program)
			changed[i] = step
			all = append(all, changed, slices.Insert(slices.Clone(program), i, step))
			// A searcher that comes and goes again, or goes and comes back.
			all = append(all, slices.Insert(slices.Clone(program), i, step, -1-step))
		}
		all = append(all, slices.Delete(slices.Clone(program), i, i+1), program[:i])
		for j := range i {
			changed := slices.Clone(program)
			changed[i], changed[j] = changed[j], changed[i]
			all = append(all, changed)
		}
	}
	return all
}

func TestProgramsWithOneThingChanged(t *testing.T) {
	t.Parallel()
	told := map[[2]bool]int{}
	graphs := append(eachOf(allGraphs(4), 9), eachOf(allGraphs(5), 101)...)
	graphs = append(graphs, greatGraphs()[:20]...)
	for _, g := range append(graphs, treeGraphs()[:10]...) {
		layout := nodesOf(g.Size)
		for range 2 {
			layout = append(layout[1:], layout[0])
			program := programOfLayoutBy(g, layout)
			// At the end, two more steps leave a node with a searcher unsafe or safe.
			for _, changed := range changedPrograms(g.Size, append(program, layout[0], -1-layout[0], layout[0])) {
				if got, is := checkProgram(t, g, changed); is {
					told[[2]bool{got.clears, got.steady}]++
				}
			}
		}
	}
	checkKinds(t, told)
}

func TestSearchesByHand(t *testing.T) {
	apart, star := graph(6), graph(6, 0, 5, 1, 5, 2, 5, 3, 5, 4, 5)
	for _, c := range []struct {
		name     string
		g        impl.Graph
		number   int
		programs [][]int // for numbers of searchers from this one on, up to the Size
	}{
		{"no nodes", graph(0), 0, [][]int{{}}},
		{"one node", graph(1), 1, [][]int{{0}}},
		{"two nodes apart", graph(2), 1, [][]int{{0, -1, 1}, {0, 1}}},
		{"two neighbors", inRow(2), 2, [][]int{{0, 1}}},
		{"a row", inRow(3), 2, [][]int{{0, 1, -1, 2}, {0, 1, 2}}},
		{"a row, its middle first", graph(3, 0, 1, 0, 2), 2, [][]int{{0, 1, -2, 2}, {0, 1, 2}}},
		{"a row, its middle last", graph(3, 0, 2, 1, 2), 2, [][]int{{0, 2, -1, 1}, {0, 1, 2}}},
		{"an edge and a node", graph(3, 1, 2), 2, [][]int{{0, -1, 1, 2}, {0, 1, 2}}},
		{"a cycle of three", cycle(3, 3), 3, [][]int{{0, 1, 2}}},
		{"a cycle of four", cycle(4, 4), 3, [][]int{{0, 1, 2, -2, 3}, {0, 1, 2, 3}}},
		{"two edges", graph(4, 0, 1, 2, 3), 2, [][]int{{0, 1, -2, -1, 2, 3}, {0, 1, -2, 2, 3}, {0, 1, 2, 3}}},
		{"six nodes apart", apart, 1, [][]int{
			{0, -1, 1, -2, 2, -3, 3, -4, 4, -5, 5}, {0, -1, 1, -2, 2, -3, 3, -4, 4, 5}, {0, -1, 1, -2, 2, -3, 3, 4, 5},
			{0, -1, 1, -2, 2, 3, 4, 5}, {0, -1, 1, 2, 3, 4, 5}, {0, 1, 2, 3, 4, 5},
		}},
		{"six in a row", inRow(6), 2, [][]int{
			{0, 1, -1, 2, -2, 3, -3, 4, -4, 5}, {0, 1, -1, 2, -2, 3, -3, 4, 5}, {0, 1, -1, 2, -2, 3, 4, 5}, {0, 1, -1, 2, 3, 4, 5}, nodesOf(6),
		}},
		{"a star", star, 2, [][]int{
			{0, 5, -1, 1, -2, 2, -3, 3, -4, 4}, {0, 1, 5, -2, -1, 2, -3, 3, 4}, {0, 1, 2, 5, -3, -2, 3, 4}, {0, 1, 2, 3, 5, -4, 4}, nodesOf(6),
		}},
		{"six nodes with all edges", complete(6), 6, [][]int{nodesOf(6)}},
	} {
		number, ok := impl.SearchNumber(c.g)
		checkNumber(t, "searchers for "+c.name, number, ok, c.number)
		for k := range impl.MaxSize + 1 {
			if k < c.number {
				checkFails(t, "ShortestSearch of "+c.name, impl.ShortestSearch, c.g, k)
				continue
			}
			program, ok := impl.ShortestSearch(c.g, k)
			checkList(t, strconv.Itoa(k)+" on "+c.name, program, ok, c.programs[min(k, c.g.Size)-c.number])
		}
	}
}

// checkSearches compares what is told of all numbers of searchers of a Graph, and checks what the
// programs do.
func checkSearches(t *testing.T, g impl.Graph) {
	t.Helper()
	game, name := searchGameBy(g), textOf(g)
	least := -1
	var want []int
	for k := range impl.MaxSize + 1 {
		// More searchers than nodes do what one for each node does.
		if k <= g.Size {
			want = game.of(k).first()
		}
		if want == nil {
			checkFails(t, "ShortestSearch of "+name, impl.ShortestSearch, g, k)
			continue
		}
		if least < 0 {
			least = k
		}
		program, ok := impl.ShortestSearch(g, k)
		checkList(t, strconv.Itoa(k)+" on "+name, program, ok, want)
		told, is := searchedBy(g, program)
		if !is || !told.clears || told.used > k {
			t.Error("not clearing", g, k, program, told)
		}
		// As many steps as a program of a layout has are enough, so MaxProgram leaves none out.
		if len(program) > 2*g.Size {
			t.Error("long", g, k, program)
		}
	}
	number, ok := impl.SearchNumber(g)
	checkNumber(t, "searchers for "+name, number, ok, least)
	// The guarantee, with the layouts of the test's own.
	width, _ := layoutsBy(g, ordersOf(g.Size))
	if g.Size > 0 && least != width+1 {
		t.Error("searchers and pathwidth", g, least, width)
	}
}

func TestPromise6SearchersOfSmallGraphs(t *testing.T) {
	t.Parallel()
	for _, g := range smallGraphs(5) {
		checkSearches(t, g)
	}
}

func TestPromise6SearchersOfSixNodes(t *testing.T) {
	t.Parallel()
	graphs := differentGraphs(6)
	if len(graphs) != 156 {
		t.Error("kinds of Graphs:", len(graphs))
	}
	for _, g := range append(graphs, eachOf(allGraphs(6), 701)...) {
		checkSearches(t, g)
	}
}

func TestPromise6BetweenTheFunctions(t *testing.T) {
	t.Parallel()
	for _, g := range eachOf(allGraphs(6), 29) {
		width, one := impl.PathwidthOf(g)
		number, two := impl.SearchNumber(g)
		best, three := impl.BestLayout(g)
		program, four := impl.ProgramOfLayout(g, best)
		used, five := impl.SearchersUsed(g, program)
		if !one || !two || !three || !four || !five || number != width+1 || used != number {
			t.Error("searchers and pathwidth", g, number, width, best, program, used)
		}
	}
}

// firstOfAll returns the first one of the shortest programs that clear with at most k searchers,
// among those of at most so many steps, nil if there is none.
func firstOfAll(g impl.Graph, k int, most int) []int {
	for length := range most + 1 {
		var best []int
		for _, nodes := range listsOver(length, 0, g.Size-1) {
			program := programOf(nodes)
			told, is := searchedBy(g, program)
			if is && told.clears && told.used <= k && (best == nil || slices.Compare(program, best) < 0) {
				best = program
			}
		}
		if best != nil {
			return best
		}
	}
	return nil
}

func TestShortestSearchesOfAllPrograms(t *testing.T) {
	t.Parallel()
	for _, g := range append(smallGraphs(3), differentGraphs(4)...) {
		for k := range g.Size + 2 {
			want := firstOfAll(g, k, min(2*g.Size, 7))
			if want == nil {
				checkFails(t, "ShortestSearch of "+textOf(g), impl.ShortestSearch, g, k)
				continue
			}
			program, ok := impl.ShortestSearch(g, k)
			checkList(t, strconv.Itoa(k)+" on "+textOf(g), program, ok, want)
		}
	}
}

// runsBy calls a function for all lists of bags of a length in which each node is in the bags from
// one to another.
func runsBy(size int, length int, call func(bags [][]int)) {
	var runs [][2]int
	for from := range length {
		for to := from; to < length; to++ {
			runs = append(runs, [2]int{from, to})
		}
	}
	for _, chosen := range chosenFrom(size, runs) {
		bags := make([][]int, length)
		for x, run := range chosen {
			for i := run[0]; i <= run[1]; i++ {
				bags[i] = append(bags[i], x)
			}
		}
		call(bags)
	}
}

// checkWidths compares the least width of all path decompositions with so many bags with the
// pathwidth.
func checkWidths(t *testing.T, graphs []impl.Graph, size int, length int) {
	t.Helper()
	least := make([]int, len(graphs))
	for i := range least {
		least[i] = math.MaxInt
	}
	runsBy(size, length, func(bags [][]int) {
		for i, g := range graphs {
			is, ok := impl.IsPathDecomposition(g, bags)
			if want := isPathBy(g, bags); !ok || is != want {
				t.Fatal("bags", g, bags, is, want)
			}
			if is {
				least[i] = min(least[i], bagsWidth(bags))
			}
		}
	})
	for i, g := range graphs {
		width, ok := impl.PathwidthOf(g)
		checkNumber(t, "pathwidth of "+textOf(g), width, ok, least[i])
	}
}

func TestPromise6WidthsOfAllPathDecompositions(t *testing.T) {
	t.Parallel()
	for size := 1; size <= 3; size++ {
		for length := size; length <= 5; length++ {
			checkWidths(t, allGraphs(size), size, length)
		}
	}
	checkWidths(t, differentGraphs(4), 4, 4)
	checkWidths(t, eachOf(allGraphs(4), 7), 4, 4)
}

func TestSearchesOfOtherNumbersAndSizesFail(t *testing.T) {
	for _, g := range append(smallGraphs(3), complete(6), graph(6), inRow(6)) {
		for _, k := range []int{-1, -2, 9, 10, 64, 1 << 32, math.MaxInt, math.MinInt} {
			checkFails(t, "ShortestSearch", impl.ShortestSearch, g, k)
		}
		if program, ok := impl.ShortestSearch(g, impl.MaxSize); !ok || !slices.Equal(program, nodesOf(g.Size)) {
			t.Error("MaxSize searchers", g, program, ok)
		}
	}
	for _, g := range []impl.Graph{graph(7), inRow(7), complete(7), graph(8), inRow(8), complete(8), spider(), cube()} {
		checkFails(t, "SearchNumber", impl.SearchNumber, g)
		for k := range impl.MaxSize + 2 {
			checkFails(t, "ShortestSearch", impl.ShortestSearch, g, k)
		}
	}
}

// searchCalls are the functions of one Graph.
func searchCalls() map[string]any {
	return map[string]any{
		"PathwidthOf": impl.PathwidthOf, "BestLayout": impl.BestLayout, "FrontBound": impl.FrontBound, "SearchNumber": impl.SearchNumber,
	}
}

// stepCalls are the functions of one Graph and a list of numbers.
func stepCalls() map[string]any {
	calls := map[string]any{"IsLayout": impl.IsLayout, "FrontOf": impl.FrontOf, "IsProgram": impl.IsProgram}
	for _, others := range []map[string]any{layoutCalls(), programCalls()} {
		for name, function := range others {
			calls[name] = function
		}
	}
	return calls
}

// bagCalls are the functions of one Graph and bags.
func bagCalls() map[string]any {
	return map[string]any{"IsPathDecomposition": impl.IsPathDecomposition, "LayoutOfBags": impl.LayoutOfBags}
}

func TestSearchingGraphsThatAreNotValid(t *testing.T) {
	for name, g := range brokenGraphs() {
		for call, function := range searchCalls() {
			checkFails(t, call+" of "+name, function, g)
		}
		list := nodesOf(min(max(g.Size, 0), 9))
		for call, function := range stepCalls() {
			for _, numbers := range [][]int{nil, {0}, list} {
				checkFails(t, call+" of "+name, function, g, numbers)
			}
		}
		for call, function := range bagCalls() {
			for _, bags := range [][][]int{nil, {{}}, {{0}}, {list}, {list, list}} {
				checkFails(t, call+" of "+name, function, g, bags)
			}
		}
		for k := range impl.MaxSize + 2 {
			checkFails(t, "ShortestSearch of "+name, impl.ShortestSearch, g, k-1)
		}
	}
}

// checkSearchingCalls makes all calls of a Graph with some lists.
func checkSearchingCalls(t *testing.T, g impl.Graph) {
	t.Helper()
	for name, function := range searchCalls() {
		checkCall(t, name, function, g)
	}
	best, _ := impl.BestLayout(g)
	program, _ := impl.ProgramOfLayout(g, best)
	own, _ := impl.BagsOfLayout(g, best)
	for _, list := range [][]int{best, program, nil, {0}, {1, 0}, {0, 1, -1, -2}, nodesOf(min(max(g.Size, 0), 9)), {0, 0, 3}, {7}, {-1}} {
		// The room behind the list is what an append to it would write to.
		room := append(slices.Clone(list), -7, -8)
		for name, function := range stepCalls() {
			checkCall(t, name, function, g, room[:len(list)])
		}
		bags := append(slices.Clone(own), room[:len(list)], []int{-9})
		for name, function := range bagCalls() {
			checkCall(t, name, function, g, bags[:len(own)+1])
			checkCall(t, name, function, g, bags[:len(own)])
			checkCall(t, name, function, g, bags[len(own):len(own)+1])
		}
		if room[len(list)] != -7 || room[len(list)+1] != -8 || len(bags[len(own)+1]) != 1 || bags[len(own)+1][0] != -9 {
			t.Fatal("written behind a list", g, list, bags)
		}
	}
	for _, k := range []int{-1, 0, 1, 2, 3, 8, 9} {
		checkCall(t, "ShortestSearch", impl.ShortestSearch, g, k)
	}
}

func TestSearchingLeavesItsArgumentsAlone(t *testing.T) {
	graphs := append(smallGraphs(3), allGraphs(4)[20:30]...)
	graphs = append(append(graphs, greatGraphs()[:6]...), treeGraphs()[:2]...)
	checkWithRoom(t, append(graphs, complete(8), cycle(6, 6), complete(6)), checkSearchingCalls)
}

// callAllOfSearching makes all calls of a Graph.
func callAllOfSearching(g impl.Graph) {
	best, _ := impl.BestLayout(g)
	impl.PathwidthOf(g)
	impl.FrontBound(g)
	for _, layout := range [][]int{best, nodesOf(g.Size)} {
		impl.IsLayout(g, layout)
		impl.FrontOf(g, layout)
		impl.FrontSizes(g, layout)
		bags, _ := impl.BagsOfLayout(g, layout)
		impl.IsPathDecomposition(g, bags)
		impl.LayoutOfBags(g, bags)
		program, _ := impl.ProgramOfLayout(g, layout)
		impl.IsProgram(g, program)
		impl.RunProgram(g, program)
		impl.SearchersUsed(g, program)
		impl.IsClearing(g, program)
		impl.IsSteady(g, program)
	}
	impl.SearchNumber(g)
	for k := range impl.MaxSize + 1 {
		impl.ShortestSearch(g, k)
	}
}

func TestSearchingReturnsInTime(t *testing.T) {
	graphs := append(append(greatGraphs(), treeGraphs()...), halvedGraphs()...)
	checkInTime(t, func() {
		for _, g := range graphs {
			callAllOfSearching(g)
		}
		for _, g := range []impl.Graph{graph(8), complete(8)} {
			impl.IsPathDecomposition(g, make([][]int, 1<<22))
			impl.IsPathDecomposition(g, slices.Repeat([][]int{nodesOf(1 << 18)}, 16))
			impl.IsProgram(g, slices.Repeat([]int{0, -1}, 1<<21))
			impl.IsLayout(g, nodesOf(1<<22))
			impl.FrontOf(g, nodesOf(1<<22))
		}
	})
}
